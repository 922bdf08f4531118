package fact

import (
	"strings"
	"testing"

	"intarsia/api"
)

// P19.2, the chapter's example: c, the first one, with 5 and Nothing is
// 00 01 01 00 00 00 00 05 00.
func TestPutExample(t *testing.T) {
	l := classes(classIs("c", "p", "q"))
	wantPut(t, l, fact(3, "c", number(5), none), bytesOf("00 01 01 00 00 00 00 05 00"))
}

// P19.2: a byte of the class' place, and value.Put of each value; the tag is not
// among them.
func TestPutBytes(t *testing.T) {
	for _, tag := range tagsThatMay {
		wantPut(t, three(), fact(tag, "e"), "\x02")
		wantPut(t, three(), api.Fact{Tag: tag, Class: "e", Vals: vals()}, "\x02")
		wantPut(t, three(), fact(tag, "d", none), "\x01\x00")
		wantPut(t, three(), fact(tag, "c", none, none, none), "\x00\x00\x00\x00")
	}
	for _, c := range []struct {
		api.Value
		digits string
	}{
		{none, "00"},
		{number(0), "01 01 00 00 00 00 00"},
		{number(-1), "01 00 ff ff ff ff ff"},
		{number(1 << 40), "01 02 00 00 00 00 00"},
		{number(-1 << 40), "01 00 00 00 00 00 00"},
		{symbol("a"), "02 01 61"},
		{symbol("nill"), "02 04 6e 69 6c 6c"},
		{symbol("é"), "02 02 c3 a9"},
		{symbol(widest), "02 18 6162636465666768696a6b6c6d6e6f707172737475767778"},
	} {
		b := bytesOf(c.digits)
		wantPut(t, three(), fact(7, "d", c.Value), "\x01"+b)
		wantPut(t, three(), fact(7, "c", c.Value, none, number(5)), "\x00"+b+"\x00\x01\x01\x00\x00\x00\x00\x05")
		wantPut(t, three(), fact(7, "c", symbol("b"), c.Value, none), "\x00\x02\x01b"+b+"\x00")
		wantPut(t, three(), fact(7, "c", number(-1), symbol("c"), c.Value), "\x00\x01\x00\xff\xff\xff\xff\xff\x02\x01c"+b)
	}
}

// P19.2: any values that may be, at any place.
func TestPutValues(t *testing.T) {
	for _, u := range rightValues() {
		for _, v := range rightValues() {
			for _, w := range rightValues() {
				f := fact(7, "c", u, v, w)
				want, _ := ownPut(three(), f)
				wantPut(t, three(), f, want)
			}
		}
	}
}

// P19.2: class.Check's error of what may not be.
func TestPutMayNot(t *testing.T) {
	for _, tag := range tagsThatMayNo {
		wantNotPut(t, three(), fact(tag, "d", none), api.ErrTag)
		wantNotPut(t, three(), fact(tag, "z"), api.ErrTag)
	}
	for _, name := range []string{"", "C", "cc", "c ", "p", "\xff"} {
		wantNotPut(t, three(), fact(7, name, none), api.ErrClass)
		wantNotPut(t, three(), fact(7, name), api.ErrClass)
		wantNotPut(t, nil, fact(7, name, api.Value{Kind: 3}), api.ErrClass)
	}
	wantNotPut(t, three(), fact(7, "c"), api.ErrForm)
	wantNotPut(t, three(), fact(7, "c", none, none), api.ErrForm)
	wantNotPut(t, three(), fact(7, "c", none, none, none, none), api.ErrForm)
	wantNotPut(t, three(), fact(7, "e", none), api.ErrForm)
	for _, v := range wrongValues() {
		wantNotPut(t, three(), fact(7, "d", v.Value), v.err)
		wantNotPut(t, three(), fact(7, "c", v.Value, none, number(1)), v.err)
		wantNotPut(t, three(), fact(7, "c", none, v.Value, number(1)), v.err)
		wantNotPut(t, three(), fact(7, "c", none, number(1), v.Value), v.err)
		wantNotPut(t, three(), fact(7, "d", v.Value, none), api.ErrForm)
		for _, w := range wrongValues() {
			wantNotPut(t, three(), fact(7, "c", v.Value, none, w.Value), v.err)
		}
	}
}

// P19.2: the class' place has one byte.
func TestPutPlace(t *testing.T) {
	l := many(300)
	for i, c := range l {
		if i < 256 {
			wantPut(t, l, fact(7, c.Name, symbol("a")), string([]byte{byte(i)})+"\x02\x01a")
			continue
		}
		wantNotPut(t, l, fact(7, c.Name, none), api.ErrLong)
	}
	for _, n := range []int{255, 256, 257, 511, 512, 513, 65535, 65536, 65537} {
		l := append(many(n), classIs("c", "p"), classIs("d", "p"))
		f := fact(7, "c", number(5))
		if n < 256 {
			wantPut(t, l, f, "\xff\x01\x01\x00\x00\x00\x00\x05")
			wantNotPut(t, l, fact(7, "d", number(5)), api.ErrLong)
			continue
		}
		wantNotPut(t, l, f, api.ErrLong)
	}
}

// P19.2: of classes of one name it is the first one.
func TestPutFirstPlace(t *testing.T) {
	l := classes(classIs("a"), classIs("c", "p"), classIs("b"), classIs("c", "p", "q"), classIs("c", "p"))
	wantPut(t, l, fact(7, "c", number(5)), "\x01\x01\x01\x00\x00\x00\x00\x05")
	wantNotPut(t, l, fact(7, "c", number(5), none), api.ErrForm)
	wantPut(t, classes(classIs("c"), classIs("c")), fact(7, "c"), "\x00")
	far := many(300)
	far[299].Name = "k255"
	wantPut(t, far, fact(7, "k255", none), "\xff\x00")
	far[255].Name = "k299"
	far[256].Name = "k255"
	wantNotPut(t, far, fact(7, "k255", none), api.ErrLong)
	far[0].Name = "k255"
	wantPut(t, far, fact(7, "k255", none), "\x00\x00")
}

// atMost are lists of values that have just so many bytes, with that of the place,
// as a table takes; each ends with another kind of value.
func atMost() [][]api.Value {
	return [][]api.Value{
		times(159, none),
		joined(times(22, number(5)), times(5, none)),
		joined(times(5, none), times(22, number(-5))),
		joined(times(53, symbol("a"))),
		joined(times(6, symbol(widest)), times(3, none)),
		joined(times(3, none), times(6, symbol(widest))),
		joined(times(6, symbol(widest)), times(1, symbol("a"))),
		joined(times(5, symbol(widest)), times(22, none), times(1, number(7))),
		joined(times(2, number(1)), times(5, symbol(widest)), vals(number(1), symbol("abcdef"))),
	}
}

// P19.2: there may be as many bytes as a table takes, and not one more.
func TestPutMost(t *testing.T) {
	for _, m := range atMost() {
		l := classes(wide("a", len(m)), wide("b", len(m)+1))
		want, _ := ownPut(l, fact(7, "a", m...))
		if len(want) != most {
			t.Errorf("%s has %d bytes", short(m), len(want))
		}
		wantPut(t, l, fact(7, "a", m...), want)
		for _, v := range vals(none, number(0), symbol("a"), symbol(widest)) {
			wantNotPut(t, l, fact(7, "b", append(m[:len(m):len(m)], v)...), api.ErrLong)
			wantNotPut(t, l, fact(7, "b", joined(vals(v), m)...), api.ErrLong)
		}
		fewer := classes(wide("a", len(m)-1))
		for _, l := range [][]api.Value{m[1:], m[:len(m)-1]} {
			want, _ := ownPut(fewer, fact(7, "a", l...))
			wantPut(t, fewer, fact(7, "a", l...), want)
		}
	}
	wantNotPut(t, classes(wide("a", 7)), fact(7, "a", times(7, symbol(widest))...), api.ErrLong)
	wantNotPut(t, classes(wide("a", 23)), fact(7, "a", times(23, number(1))...), api.ErrLong)
	six := classes(wide("a", api.MaxAttrs))
	wantPut(t, six, fact(7, "a", times(6, symbol(widest))...), "\x00"+strings.Repeat("\x02\x18"+widest, 6))
}

// P19.2, rule 2: class.Check's error is told ahead of ErrLong.
func TestPutOrder(t *testing.T) {
	long := classes(wide("a", 200), classIs("c", "p"))
	far := append(many(256), classIs("c", "p"), wide("a", 200))
	for _, l := range [][]api.Class{long, far} {
		wantNotPut(t, l, fact(7, "a", times(200, none)...), api.ErrLong)
		wantNotPut(t, l, fact(7, "a", times(200, number(1))...), api.ErrLong)
		wantNotPut(t, l, fact(0, "a", times(200, none)...), api.ErrTag)
		wantNotPut(t, l, fact(mostTag+1, "a", times(200, none)...), api.ErrTag)
		wantNotPut(t, l, fact(7, "z", times(200, none)...), api.ErrClass)
		wantNotPut(t, l, fact(7, "a", times(199, none)...), api.ErrForm)
		wantNotPut(t, l, fact(7, "a", times(201, none)...), api.ErrForm)
		for _, v := range wrongValues() {
			for _, at := range []int{0, 100, 158, 159, 199} {
				f := fact(7, "a", times(200, none)...)
				f.Vals[at] = v.Value
				wantNotPut(t, l, f, v.err)
			}
		}
	}
	for _, v := range wrongValues() {
		wantNotPut(t, far, fact(7, "c", v.Value), v.err)
		wantNotPut(t, far, fact(0, "c", v.Value), api.ErrTag)
		wantNotPut(t, far, fact(7, "c", v.Value, none), api.ErrForm)
	}
	wantNotPut(t, far, fact(7, "c", none), api.ErrLong)
}
