package fact

import (
	"math/rand"
	"strings"
	"testing"

	"intarsia/api"
)

// P19.1, the chapter's example: Key(258) = 77 00 00 00 00 01 02.
func TestKeyExample(t *testing.T) {
	wantKey(t, 258, "\x77\x00\x00\x00\x00\x01\x02", api.OK)
	wantTag(t, "\x77\x00\x00\x00\x00\x01\x02", 258, api.OK)
}

// P19.1: a `w`, and the tag's six bytes, the highest one first; the key tells it.
func TestKeyOfTags(t *testing.T) {
	for _, c := range []struct {
		tag    int
		digits string
	}{
		{1, "77 00 00 00 00 00 01"},
		{255, "77 00 00 00 00 00 ff"},
		{256, "77 00 00 00 00 01 00"},
		{65535, "77 00 00 00 00 ff ff"},
		{65536, "77 00 00 00 01 00 00"},
		{1<<24 - 1, "77 00 00 00 ff ff ff"},
		{1 << 24, "77 00 00 01 00 00 00"},
		{1<<32 - 1, "77 00 00 ff ff ff ff"},
		{1 << 32, "77 00 01 00 00 00 00"},
		{0x0102030405, "77 00 01 02 03 04 05"},
		{0xfefdfcfbfa, "77 00 fe fd fc fb fa"},
		{1<<40 - 1, "77 00 ff ff ff ff ff"},
		{1 << 40, "77 01 00 00 00 00 00"},
	} {
		wantKey(t, c.tag, bytesOf(c.digits), api.OK)
		wantTag(t, bytesOf(c.digits), c.tag, api.OK)
	}
}

// P19.1: a tag that may be has a key that tells it.
func TestKeyMay(t *testing.T) {
	r := rand.New(rand.NewSource(191))
	tags := append([]int{}, tagsThatMay...)
	for i := range 3000 {
		tags = append(tags, 1+i, 1+r.Intn(mostTag), 1+r.Intn(1<<r.Intn(41)), mostTag-i)
	}
	for _, tag := range tags {
		key, _ := ownKey(tag)
		wantKey(t, tag, key, api.OK)
		wantTag(t, key, tag, api.OK)
	}
}

// P19.1: a tag that may not be has no key.
func TestKeyMayNot(t *testing.T) {
	for _, tag := range tagsThatMayNo {
		wantKey(t, tag, "", api.ErrTag)
	}
	for i := range 3000 {
		wantKey(t, -i, "", api.ErrTag)
		wantKey(t, mostTag+1+i*i, "", api.ErrTag)
	}
	for i := range 24 {
		wantKey(t, -1<<(40+i), "", api.ErrTag)
		wantKey(t, 1<<min(41+i, 62), "", api.ErrTag)
	}
}

// P19.1: a key that is none tells no tag.
func TestTagOfNoKey(t *testing.T) {
	for _, digits := range []string{
		"",
		"77",
		"00 00 00 00 01 02",
		"77 00 00 00 00 01",
		"77 00 00 00 01 02",
		"77 00 00 00 00 01 02 00",
		"77 00 00 00 00 00 01 02",
		"77 77 00 00 00 00 01 02",
		"77 00 00 00 00 00 00",
		"77 01 00 00 00 00 01",
		"77 01 00 00 00 01 00",
		"77 01 01 00 00 00 00",
		"77 02 00 00 00 00 00",
		"77 7f ff ff ff ff ff",
		"77 80 00 00 00 00 00",
		"77 80 00 00 00 00 01",
		"77 ff ff ff ff ff ff",
		"57 00 00 00 00 01 02",
	} {
		wantTag(t, bytesOf(digits), 0, api.ErrForm)
	}
	for n := range 30 {
		wantTag(t, strings.Repeat("w", n), 0, api.ErrForm)
		wantTag(t, strings.Repeat("\x00", n), 0, api.ErrForm)
	}
	wantTag(t, strings.Repeat("w\x00\x00\x00\x00\x01\x02", 1<<20), 0, api.ErrForm)
}

// P19.1: of a key no byte can be taken away, put in or changed without another tag
// being told, or none.
func TestTagOfChangedKey(t *testing.T) {
	for _, tag := range tagsThatMay {
		key, _ := ownKey(tag)
		for i := range key {
			wantTag(t, key[:i], 0, api.ErrForm)
			wantTag(t, key[:i]+key[i+1:], 0, api.ErrForm)
			for b := range 256 {
				wantTag(t, key[:i]+string([]byte{byte(b)})+key[i:], 0, api.ErrForm)
				wantTag(t, key+string([]byte{byte(b)}), 0, api.ErrForm)
				other := key[:i] + string([]byte{byte(b)}) + key[i+1:]
				want, err := ownTag(other)
				wantTag(t, other, want, err)
				if other != key && want == tag || i == 0 && byte(b) != 'w' && err == api.OK {
					t.Errorf("%x tells %d", other, want)
				}
			}
		}
	}
}
