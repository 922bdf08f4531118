package fact

import (
	"math"
	"math/rand"
	"slices"
	"testing"

	"intarsia/api"
)

// drawer draws classes, facts and texts that may be mostly, but for a slip now and
// then. Its lists have spare room with something in it.
type drawer struct {
	*rand.Rand
	slips int // of how many steps one slips; 0: none
}

func drawerOf(seed, slips int) drawer {
	return drawer{rand.New(rand.NewSource(int64(seed))), slips}
}

func (d drawer) slip() bool { return d.slips > 0 && d.Intn(d.slips) == 0 }

// part picks one of some parts.
func part[T any](d drawer, l ...T) T { return l[d.Intn(len(l))] }

func (d drawer) name() string { return part(d, "c", "d", "e", "f", "", "\xff", "a b") }

// classes draws some, mostly with names of their own; now and then many others stand
// ahead, so that places come near what a byte tells.
func (d drawer) classes() []api.Class {
	var l []api.Class
	if d.Intn(20) == 0 {
		l = many(250 + d.Intn(8))
	}
	names := []string{"c", "d", "e", "f", "", "\xff"}
	d.Shuffle(len(names), func(i, k int) { names[i], names[k] = names[k], names[i] })
	for _, name := range names[:1+d.Intn(5)] {
		if d.slip() {
			name = d.name()
		}
		l = append(l, wide(name, part(d, 0, 1, 2, 3, d.Intn(7), d.Intn(7), d.Intn(40))))
	}
	return roomy(l, classIs("g", "p"))
}

func (d drawer) word() string {
	const signs = "abcXYZ019_-?!+*.\u00e9\u20ac"
	for {
		s := ""
		for range 1 + d.Intn(part(d, 1, 4, 14)) {
			s += string(part(d, []rune(signs)...))
		}
		if ok(symbol(s)) {
			return s
		}
	}
}

func (d drawer) value() api.Value {
	if d.slip() {
		return part(d, wrongValues()...).Value
	}
	n := d.Intn(1<<41+1) - 1<<40
	return part(d, part(d, rightValues()...), number(n), number(n>>d.Intn(40)), symbol(d.word()), none)
}

func (d drawer) tag() int {
	if d.slip() {
		return part(d, tagsThatMayNo...)
	}
	return part(d, part(d, tagsThatMay...), 1+d.Intn(mostTag))
}

// fact draws one of some classes, with as many values as that has, but for slips.
func (d drawer) fact(l []api.Class) api.Fact {
	c := part(d, l...)
	if d.slip() {
		c = classIs(d.name(), "p", "q")
	}
	n := len(c.Attrs)
	if d.slip() {
		n = max(0, n+part(d, -1, 1, 2))
	}
	f := api.Fact{Tag: d.tag(), Class: c.Name}
	for range n {
		f.Vals = append(f.Vals, d.value())
	}
	f.Vals = roomy(f.Vals, number(9))
	return f
}

// other draws a text that is unlike s at a place or two.
func (d drawer) other(s string) string {
	b := []byte(s)
	for range 1 + d.Intn(2) {
		at := d.Intn(len(b) + 1)
		one := part(d, 0, 1, 2, 3, byte(d.Intn(256)), 'a')
		switch {
		case d.Intn(3) == 0:
			b = slices.Insert(b, at, one)
		case at == len(b):
			b = b[:d.Intn(len(b)+1)]
		case d.Intn(2) == 0:
			b = slices.Delete(b, at, at+1)
		default:
			b[at] = one
		}
	}
	return string(b)
}

// P19.1, P19.2, rules 1, 3 and 4: whatever is drawn, no call panics, changes what it
// is given, or tells another thing than the chapter's words, or the next time.
func TestDrawn(t *testing.T) {
	met, got, not := map[api.Errno]int{}, 0, 0
	for i := range 9000 {
		d := drawerOf(i, []int{0, 10, 30, 90}[i%4])
		l := d.classes()
		f := d.fact(l)
		want, err := ownPut(l, f)
		met[err]++
		for range 2 {
			if err == api.OK {
				wantPut(t, l, f, want)
			} else {
				wantNotPut(t, l, f, err)
			}
		}
		for range 3 {
			if wantLikeOwn(t, l, d.tag(), d.other(want)) {
				got++
			} else {
				not++
			}
		}
		drawnKey(t, d)
		if t.Failed() {
			return
		}
	}
	for _, err := range []api.Errno{api.OK, api.ErrForm, api.ErrName, api.ErrKind, api.ErrRange, api.ErrLong, api.ErrClass, api.ErrTag} {
		if met[err] < 40 {
			t.Errorf("%d is drawn %d times", int(err), met[err])
		}
	}
	if got < 1000 || not < 1000 {
		t.Errorf("%d texts were facts', %d were not", got, not)
	}
}

// drawnKey asks Key and Tag of a drawn tag, and of a key that was changed.
func drawnKey(t *testing.T, d drawer) {
	t.Helper()
	tag := d.tag()
	key, err := ownKey(tag)
	wantKey(t, tag, key, err)
	other := d.other(key)
	for _, k := range []string{key, other} {
		tag, err := ownTag(k)
		wantTag(t, k, tag, err)
	}
}

// Rule 1: no call panics, whatever the tags, the kinds, the numbers, the names, the
// bytes and the lists' lengths are; and what it tells is as the chapter's words say.
func TestWild(t *testing.T) {
	d := drawerOf(196, 1)
	n := func() int {
		return part(d, 0, 1, 2, -1, math.MinInt, math.MaxInt, 1<<40, 1<<40+1, -1<<40, 1<<48)
	}
	name := func() string { return part(d, "c", "p", "", "\xff", "\x00", "nil", "1") }
	val := func() api.Value { return api.Value{Kind: part(d, 0, 1, 2, 3, uint8(d.Intn(256))), N: n(), S: name()} }
	facts := 0
	for range 8000 {
		var l []api.Class
		for range d.Intn(4) {
			l = append(l, wide(name(), d.Intn(4)))
		}
		f := api.Fact{Tag: n(), Class: name()}
		for range d.Intn(4) {
			f.Vals = append(f.Vals, part(d, val(), none))
		}
		if want, err := ownPut(l, f); err == api.OK {
			wantPut(t, l, f, want)
		} else {
			wantNotPut(t, l, f, err)
		}
		b := ""
		for range d.Intn(9) {
			b += string([]byte{part(d, 0, 0, 0, 1, 2, 'w', byte(d.Intn(256)))})
		}
		if wantLikeOwn(t, l, part(d, 1, n()), b) {
			facts++
		}
		tag, err := ownTag(b)
		wantTag(t, b, tag, err)
		tag = n()
		key, err := ownKey(tag)
		wantKey(t, tag, key, err)
		if t.Failed() {
			return
		}
	}
	if facts < 50 {
		t.Errorf("%d texts are facts'", facts)
	}
}
