package bucket

import (
	"bytes"
	"slices"
	"testing"

	"intarsia/api"
)

// P10.2, example 1.
func TestExample(t *testing.T) {
	b := Bucket{Depth: 1, Next: 0, Pairs: pairs("k", "vw")}
	want := []byte{1, 0, 0, 1, 1, 0x6b, 2, 0x76, 0x77}
	if x, err := Put(b); !bytes.Equal(x, want) || err != api.OK {
		t.Errorf("%x, %v", x, err)
	}
	c, err := Get(want)
	wantBucket(t, "Get", c, b)
	if err != api.OK {
		t.Error(err)
	}
}

// mayBe are buckets that may be, with each edge of their fields.
func mayBe() []Bucket {
	many := Bucket{Depth: 5, Next: 256}
	for i := range 80 {
		many.Pairs = append(many.Pairs, pair(string([]byte{byte(i + 100)}), ""))
	}
	return []Bucket{
		{}, {Depth: 10}, {Next: 3000}, {Depth: 10, Next: 3000}, {Depth: 2, Next: 258},
		{Depth: 1, Next: 255}, {Next: 256, Pairs: pairs("", "")},
		of("a", "b", "a", "c", "b", ""), of("", "", "", "\x00", "\x00", ""),
		of(long(48), long(160)), of(long(48), ""), of("", long(160)),
		of("\x80\xff", "\xfe", "\xff", "\x00"), sized(246), many,
	}
}

// P10.2, P10.5: what is put is got as it was, and its body is as the section
// 'Words' says.
func TestPutGet(t *testing.T) {
	for _, b := range mayBe() {
		kept := clone(b)
		x, err := Put(b)
		if err != api.OK || !bytes.Equal(x, bodyOf(b, len(b.Pairs))) || len(x) != Size(b) {
			t.Errorf("%v: %x, %v", b, x, err)
		}
		wantBucket(t, "behind Put", b, kept)
		c, err := Get(x)
		if err != api.OK || !Same(b, c) {
			t.Errorf("%x: %v, %v", x, c, err)
		}
		wantBucket(t, "Get", c, b)
	}
}

func wantNoBucket(t *testing.T, body []byte) {
	t.Helper()
	kept := slices.Clone(body)
	b, err := Get(body)
	if err != api.ErrForm || b.Depth != 0 || b.Next != 0 || b.Pairs != nil {
		t.Errorf("%x: %v, %v", body, b, err)
	}
	if !bytes.Equal(kept, body) {
		t.Errorf("%x was changed to %x", kept, body)
	}
}

// P10.2: of a body that was cut, has a byte more, or tells another count.
func TestGetWrongLength(t *testing.T) {
	for _, b := range mayBe() {
		x := bodyOf(b, len(b.Pairs))
		for n := range x {
			wantNoBucket(t, x[:n:n])
		}
		for _, more := range []byte{0, 1, 255} {
			wantNoBucket(t, append(slices.Clone(x), more))
		}
		wantNoBucket(t, bodyOf(b, len(b.Pairs)+1))
		if len(b.Pairs) > 0 {
			wantNoBucket(t, bodyOf(b, len(b.Pairs)-1))
		}
		wantNoBucket(t, bodyOf(b, 255))
	}
	wantNoBucket(t, nil)
	wantNoBucket(t, []byte{})
	wantNoBucket(t, []byte{0})
	wantNoBucket(t, bytes.Repeat([]byte{255}, 100000))
	wantNoBucket(t, make([]byte, 100000))
}

// P10.2: of bodies that are well laid, but of a bucket that may not be: ErrForm,
// whatever Check's error is.
func TestGetRefused(t *testing.T) {
	for _, b := range []Bucket{
		{Depth: 11}, {Depth: 255}, {Next: 3001}, {Next: 65535},
		of(long(49), ""), of("", long(161)), of(long(255), ""), sized(247),
		of("b", "", "a", ""), of("a", "b", "a", "a"), of("a", "b", "a", "b"), of("", "", "", ""),
		{Pairs: make([]api.Pair, 121)}, {Pairs: make([]api.Pair, 255)},
	} {
		if Check(b) == api.OK {
			t.Error(b)
		}
		wantNoBucket(t, bodyOf(b, len(b.Pairs)))
	}
}

// P10.2: each byte of a body changed to each other one: what is still a bucket
// is one that Put lays just so.
func TestGetChanged(t *testing.T) {
	for _, b := range []Bucket{{Depth: 1, Pairs: pairs("k", "vw")}, of("a", "b", "a", "c", "b", "")} {
		x := bodyOf(b, len(b.Pairs))
		for i := range x {
			for v := range 256 {
				y := slices.Clone(x)
				y[i] = byte(v)
				c, err := Get(y)
				if err == api.OK && (!bytes.Equal(bodyOf(c, len(c.Pairs)), y) || Check(c) != api.OK) {
					t.Errorf("%x: %v", y, c)
				}
				if err != api.OK && err != api.ErrForm {
					t.Errorf("%x: %v", y, err)
				}
			}
		}
	}
}

// Rule 3: bodies and buckets share no memory.
func TestBodyIsItsOwn(t *testing.T) {
	b := of("a", "b", "c", "d")
	x, _ := Put(b)
	want := slices.Clone(x)
	c, _ := Get(x)
	for i := range x {
		x[i] = 0
	}
	wantBucket(t, "behind the body's change", c, b)
	b.Pairs[0] = pair("q", "")
	c.Pairs[1] = pair("r", "")
	if y, _ := Put(of("a", "b", "c", "d")); !bytes.Equal(y, want) {
		t.Errorf("%x", y)
	}
}
