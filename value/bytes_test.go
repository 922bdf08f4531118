package value

import (
	"bytes"
	"math/rand"
	"slices"
	"strings"
	"testing"

	"intarsia/api"
)

// wantGet holds Get's answer against what is wanted; it must leave b as it is.
func wantGet(t *testing.T, b []byte, want api.Value, size int, wantErr api.Errno) {
	t.Helper()
	kept := slices.Clone(b)
	v, n, err := Get(b)
	if v != want || n != size || err != wantErr {
		t.Errorf("Get(%.40x) = %#v, %d, %d; want %#v, %d, %d", b, v, n, int(err), want, size, int(wantErr))
	}
	if !bytes.Equal(kept, b) {
		t.Errorf("%.40x was changed to %.40x", kept, b)
	}
}

func wantNone(t *testing.T, b []byte, want api.Errno) {
	t.Helper()
	wantGet(t, b, api.Value{}, 0, want)
}

// P13.4: bytes told by hand.
func TestPutTold(t *testing.T) {
	for _, c := range []struct {
		v    api.Value
		want []byte
	}{
		{api.Value{}, []byte{0}},
		{Number(5), []byte{1, 1, 0, 0, 0, 0, 5}},
		{Number(0), []byte{1, 1, 0, 0, 0, 0, 0}},
		{Number(-1), []byte{1, 0, 255, 255, 255, 255, 255}},
		{Number(most), []byte{1, 2, 0, 0, 0, 0, 0}},
		{Number(-most), []byte{1, 0, 0, 0, 0, 0, 0}},
		{Symbol("ab"), []byte{2, 2, 'a', 'b'}},
		{Symbol("\u00e9"), []byte{2, 2, 0xc3, 0xa9}},
		{Symbol(strings.Repeat("x", 24)), []byte("\x02\x18xxxxxxxxxxxxxxxxxxxxxxxx")},
	} {
		if b, err := Put(c.v); !bytes.Equal(b, c.want) || err != api.OK {
			t.Errorf("Put(%#v) = %x, %d", c.v, b, int(err))
		}
		wantGet(t, c.want, c.v, len(c.want), api.OK)
	}
}

// P13.4: what Check refuses has its error, and no bytes.
func TestPutRefused(t *testing.T) {
	for _, c := range refused() {
		if b, err := Put(c.v); b != nil || err != c.want {
			t.Errorf("Put(%#v) = %x, %d; want %d", c.v, b, int(err), int(c.want))
		}
	}
}

// P13.4, P13.5: values that may be are laid, and got as they were; bytes behind
// them don't matter, bytes that are cut at any place are ErrCut.
func TestPutGet(t *testing.T) {
	l := mayBe()
	r := rand.New(rand.NewSource(134))
	for range 5000 {
		l = append(l, drawn(r))
	}
	for _, v := range l {
		b, err := Put(v)
		if !bytes.Equal(b, layByHand(v)) || err != api.OK {
			t.Errorf("Put(%#v) = %x, %d", v, b, int(err))
		}
		wantGet(t, b, v, len(b), api.OK)
		for _, more := range []string{"\x00", "\x07", "\xff\xff", "\x02\x03nil", strings.Repeat("x", 300)} {
			wantGet(t, append(slices.Clone(b), more...), v, len(b), api.OK)
		}
		for n := range b {
			wantNone(t, b[:n:n], api.ErrCut)
			wantNone(t, b[:n], api.ErrCut)
		}
	}
}

// P13.4: values one behind the other are got one by one.
func TestGetMany(t *testing.T) {
	var b []byte
	for _, v := range mayBe() {
		b = append(b, layByHand(v)...)
	}
	for _, want := range mayBe() {
		v, n, err := Get(b)
		if v != want || err != api.OK || n != len(layByHand(want)) {
			t.Fatalf("%#v, %d, %d; want %#v", v, n, int(err), want)
		}
		b = b[n:]
	}
	wantNone(t, b, api.ErrCut)
}

// behind tells b alone, and with bytes behind it.
func behind(b []byte) [][]byte {
	return [][]byte{b, append(slices.Clone(b), 0), append(slices.Clone(b), "abcdefgh"...), append(slices.Clone(b), make([]byte, 1000)...)}
}

// P13.4: kinds above 2, alone or with anything behind them.
func TestGetWrongKind(t *testing.T) {
	for kind := 3; kind < 256; kind++ {
		for _, b := range behind([]byte{byte(kind)}) {
			wantNone(t, b, api.ErrForm)
		}
		wantNone(t, []byte{byte(kind), 1, 0, 0, 0, 0, 5}, api.ErrForm)
		wantNone(t, []byte{byte(kind), 1, 'a'}, api.ErrForm)
	}
}

// P13.4: numbers beyond the upper bound; below the lower one there are no bytes.
func TestGetNumberBeyond(t *testing.T) {
	for _, six := range [][]byte{
		{2, 0, 0, 0, 0, 1}, {2, 0, 0, 0, 1, 0}, {2, 1, 0, 0, 0, 0}, {3, 0, 0, 0, 0, 0}, {0x80, 0, 0, 0, 0, 0}, {255, 255, 255, 255, 255, 255},
	} {
		for _, b := range behind(append([]byte{1}, six...)) {
			wantNone(t, b, api.ErrForm)
		}
	}
}

// P13.4: texts that are no word, are a number, or are `nil`.
func TestGetWrongText(t *testing.T) {
	texts := append(noWords(), "nil", strings.Repeat("x", 254), strings.Repeat("x", 255))
	for _, w := range numberWords() {
		texts = append(texts, w.s)
	}
	for _, s := range texts {
		if len(s) > 255 {
			continue
		}
		for _, b := range behind(layByHand(Symbol(s))) {
			wantNone(t, b, api.ErrForm)
		}
	}
}

// P13.4: where b ends within its kind's bytes, and what is there of them is of
// no value already, ErrCut is told, which the chapter names first.
func TestGetCutOfNoValue(t *testing.T) {
	wrong := [][]byte{{1, 2, 0, 0, 0, 0, 1}, {1, 255, 255, 255, 255, 255, 255}}
	for _, s := range []string{"nil", "12", "-5", "a b", "(", "\xff\xff", "\xed\xa0\x80", strings.Repeat("x", 25), strings.Repeat("x", 255)} {
		wrong = append(wrong, layByHand(Symbol(s)))
	}
	for _, b := range wrong {
		for n := range b {
			wantNone(t, b[:n:n], api.ErrCut)
		}
		wantNone(t, b, api.ErrForm)
	}
	wantNone(t, nil, api.ErrCut)
	wantNone(t, []byte{}, api.ErrCut)
	wantNone(t, []byte{2, 0}, api.ErrForm)
}

// getByTable is P13.4, word by word.
func getByTable(b []byte) (api.Value, int, api.Errno) {
	if len(b) == 0 {
		return api.Value{}, 0, api.ErrCut
	}
	v, n := api.Value{Kind: b[0]}, 1
	switch {
	case b[0] == 1:
		n = 7
	case b[0] == 2 && len(b) == 1:
		n = 2
	case b[0] == 2:
		n = 2 + int(b[1])
	}
	if len(b) < n {
		return api.Value{}, 0, api.ErrCut
	}
	switch b[0] {
	case 1:
		for _, c := range b[1:7] {
			v.N = 256*v.N + int(c)
		}
		v.N -= most
	case 2:
		v.S = string(b[2:n])
	}
	if checkByTable(v) != api.OK {
		return api.Value{}, 0, api.ErrForm
	}
	return v, n, api.OK
}

// P13.4: drawn bytes, whose beginnings are often a value's; what is got is laid
// just so.
func TestGetDrawn(t *testing.T) {
	r := rand.New(rand.NewSource(4))
	for range 50000 {
		b := make([]byte, r.Intn(40))
		r.Read(b)
		switch r.Intn(3) {
		case 0:
			b = append([]byte{1, byte(r.Intn(4))}, b...)
		case 1:
			s := drawnText(r)
			b = append([]byte{2, byte(len(s) + r.Intn(20)/19)}, s+string(b)...)
		}
		v, n, err := getByTable(b)
		wantGet(t, b, v, n, err)
		if err == api.OK {
			if x, _ := Put(v); !bytes.Equal(x, b[:n]) {
				t.Errorf("%x is got as %#v, which is laid as %x", b, v, x)
			}
		}
	}
}

// P13.4: each byte of a value's bytes changed to each other one.
func TestGetChanged(t *testing.T) {
	for _, v := range []api.Value{{}, Number(-7), Number(most), Symbol("abc"), Symbol("a\u00e9\u20ac")} {
		x := append(layByHand(v), 7)
		for i := range x {
			for c := range 256 {
				y := slices.Clone(x)
				y[i] = byte(c)
				w, n, err := getByTable(y)
				wantGet(t, y, w, n, err)
			}
		}
	}
}

// Rule 3: what Put answers is new memory each time, and Get keeps none of b.
func TestBytesAreTheirOwn(t *testing.T) {
	v := Symbol("abc")
	x, _ := Put(v)
	y, _ := Put(v)
	w, _, _ := Get(x)
	for i := range cap(x) {
		x[:cap(x)][i] = 'q'
	}
	if w != Symbol("abc") || !bytes.Equal(y, layByHand(v)) {
		t.Errorf("%#v, %x", w, y)
	}
}

// P13.4: a value's bytes may stand ahead of many others, up to the longest text
// that a byte of its length can tell.
func TestGetOfLongBytes(t *testing.T) {
	rest := make([]byte, 1<<22)
	wantGet(t, append([]byte{2, 3, 'a', 'b', 'c'}, rest...), Symbol("abc"), 5, api.OK)
	wantGet(t, rest, api.Value{}, 1, api.OK)
	for _, size := range []int{24, 25, 255} {
		b := append(layByHand(Symbol(strings.Repeat("x", size))), rest...)
		v, n, err := getByTable(b)
		wantGet(t, b, v, n, err)
	}
}
