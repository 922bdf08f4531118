package fact

import (
	"strings"
	"testing"

	"intarsia/api"
)

// P19.2, the chapter's example the other way round.
func TestGetExample(t *testing.T) {
	l := classes(classIs("c", "p", "q"))
	wantGot(t, l, 3, bytesOf("00 01 01 00 00 00 00 05 00"), fact(3, "c", number(5), none))
}

// P19.2: the fact has that tag, which must be one that may be.
func TestGetTag(t *testing.T) {
	for _, tag := range tagsThatMay {
		wantGot(t, three(), tag, "\x02", fact(tag, "e"))
		wantGot(t, three(), tag, "\x01\x00", fact(tag, "d", none))
		wantGot(t, three(), tag, "\x01\x02\x01a", fact(tag, "d", symbol("a")))
		wantNotGot(t, three(), tag, "\x01\x02\x01")
	}
	for _, tag := range tagsThatMayNo {
		wantNotGot(t, three(), tag, "\x02")
		wantNotGot(t, three(), tag, "\x01\x00")
		wantNotGot(t, three(), tag, "\x01\x02\x01a")
		wantNotGot(t, three(), tag, "")
	}
}

// P19.2: the class is the first one of its name, and there is one.
func TestGetPlace(t *testing.T) {
	all := many(600)
	for b := range 256 {
		place := string([]byte{byte(b)})
		wantNotGot(t, nil, 7, place)
		wantNotGot(t, classes(), 7, place)
		switch b {
		case 0:
			wantGot(t, classes(classIs("c")), 7, place, fact(7, "c"))
		case 2:
			wantGot(t, three(), 7, place, fact(7, "e"))
		default:
			wantNotGot(t, classes(classIs("c")), 7, place)
			wantNotGot(t, three(), 7, place)
		}
		f := fact(7, all[b].Name, none)
		wantNotGot(t, all[:b], 7, place+"\x00")
		wantGot(t, all[:b+1], 7, place+"\x00", f)
		wantGot(t, all, 7, place+"\x00", f)
	}
	l := classes(classIs("a", "p"), classIs("c", "p"), classIs("c", "p"), classIs("b", "p"), classIs("a"), classIs("c", "p"), classIs("", "p"))
	wantGot(t, l, 7, "\x00\x00", fact(7, "a", none))
	wantGot(t, l, 7, "\x01\x00", fact(7, "c", none))
	wantNotGot(t, l, 7, "\x02\x00")
	wantGot(t, l, 7, "\x03\x00", fact(7, "b", none))
	wantNotGot(t, l, 7, "\x04\x00")
	wantNotGot(t, l, 7, "\x04")
	wantNotGot(t, l, 7, "\x05\x00")
	wantGot(t, l, 7, "\x06\x00", fact(7, "", none))
	far := many(300)
	far[255].Name = "k0"
	wantNotGot(t, far, 7, "\xff\x00")
	far[0].Name = "k255"
	wantGot(t, far, 7, "\xff\x00", fact(7, "k0", none))
}

// P19.2: a fact has as many values as its class attributes.
func TestGetNumber(t *testing.T) {
	l := classes(wide("a", 0), wide("b", 1), wide("c", 2), wide("d", 7), wide("e", 159), wide("f", 160), wide("g", 2000), classIs("h", "p", "p"))
	for i, c := range l {
		place := string([]byte{byte(i)})
		for _, n := range []int{0, 1, 2, 3, 6, 7, 8, 158, 159, 160, 161, 2000} {
			val := place + strings.Repeat("\x00", n)
			if n == len(c.Attrs) && n < most {
				wantGot(t, l, 7, val, fact(7, c.Name, times(n, none)...))
			} else {
				wantNotGot(t, l, 7, val)
			}
		}
	}
	wantGot(t, l, 7, "\x07\x00\x02\x01a", fact(7, "h", none, symbol("a")))
	wantNotGot(t, l, 7, "\x07\x00")
	wantNotGot(t, l, 7, "\x07\x00\x00\x00")
}

// P19.2: a value that may not be, or is laid otherwise than value.Put lays it, is
// none's.
func TestGetWrongValue(t *testing.T) {
	for _, digits := range []string{
		"03",
		"ff",
		"01",
		"01 01 00 00 00 00",
		"01 02 00 00 00 00 01",
		"01 03 00 00 00 00 00",
		"01 80 00 00 00 00 00",
		"01 ff ff ff ff ff ff",
		"02",
		"02 00",
		"02 01",
		"02 02 61",
		"02 03 6e 69 6c",
		"02 01 35",
		"02 02 31 32",
		"02 02 2d 31",
		"02 02 2b 31",
		"02 03 61 20 62",
		"02 01 20",
		"02 01 28",
		"02 01 80",
		"02 01 ff",
		"02 02 c3 28",
		"02 02 c0 80",
		"02 03 ed a0 80",
		"02 04 f4 90 80 80",
		"02 19" + strings.Repeat("61", 25),
		"02 20" + strings.Repeat("61", 32),
		"02 ff" + strings.Repeat("61", 150),
		"02 00 01 61",
	} {
		b := bytesOf(digits)
		wantNotGot(t, three(), 7, "\x01"+b)
		wantNotGot(t, three(), 7, "\x00"+b+"\x00\x00")
		wantNotGot(t, three(), 7, "\x00\x00"+b+"\x00")
		wantNotGot(t, three(), 7, "\x00\x00\x00"+b)
		wantNotGot(t, three(), 7, "\x02"+b)
	}
	for _, kind := range []byte{3, 4, 5, 16, 48, 127, 128, 255} {
		k := string([]byte{kind})
		wantNotGot(t, three(), 7, "\x01"+k)
		wantNotGot(t, three(), 7, "\x01"+k+"\x01\x00\x00\x00\x00\x00")
		wantNotGot(t, three(), 7, "\x01"+k+"\x01a")
	}
}

// P19.2: no text above what a table takes is a fact's, however much else it is as if.
func TestGetMost(t *testing.T) {
	for _, m := range atMost() {
		l := classes(wide("a", len(m)), wide("b", len(m)+1))
		val, _ := ownPut(l, fact(7, "a", m...))
		wantGot(t, l, 7, val, fact(7, "a", m...))
		wantNotGot(t, l, 7, val+"\x00")
		wantNotGot(t, l, 7, val[:most-1])
		wantNotGot(t, l, 7, "\x01"+val[1:]+"\x00")
		wantNotGot(t, l, 7, "\x01\x00"+val[1:])
	}
	for n := 161; n < 2000; n += 7 {
		wantNotGot(t, classes(wide("a", n-1)), 7, strings.Repeat("\x00", n))
	}
	wantNotGot(t, classes(wide("a", 7)), 7, "\x00"+strings.Repeat("\x02\x18"+widest, 7))
}

// P19.2: what Put lays of a fact, with a byte taken away, put in or changed, is
// another fact's, or none's.
func TestGetChanged(t *testing.T) {
	l := append(three(), classIs("d", "p"), classIs("f", "p", "q"), classIs("g"))
	facts := []api.Fact{
		fact(7, "c", number(5), none, symbol("ab")),
		fact(7, "c", symbol("a"), symbol("nill"), symbol("1a")),
		fact(7, "c", number(1<<40), number(-1<<40), number(0)),
		fact(7, "d", symbol("é")),
		fact(7, "d", symbol(widest)),
		fact(7, "d", none),
		fact(7, "f", number(-1), none),
		fact(7, "e"),
	}
	got, not := 0, 0
	for _, f := range facts {
		val, _ := ownPut(l, f)
		for i := range val {
			wantNotGot(t, l, 7, val[:i])
			wantLikeOwn(t, l, 7, val[:i]+val[i+1:])
			for b := range 256 {
				one := string([]byte{byte(b)})
				wantLikeOwn(t, l, 7, val[:i]+one+val[i:])
				if wantLikeOwn(t, l, 7, val[:i]+one+val[i+1:]) {
					got++
				} else {
					not++
				}
			}
		}
		for b := range 256 {
			wantNotGot(t, l, 7, val+string([]byte{byte(b)}))
		}
	}
	if got < 1000 || not < 1000 {
		t.Errorf("%d changed texts were facts', %d were not", got, not)
	}
}

// P19.2: all rows of up to five pieces, of which some lay values, and some do not.
func TestGetRows(t *testing.T) {
	pieces := []string{"\x00", "\x01", "\x02", "\x03", "a", "\x01\x01\x00\x00\x00\x00\x05", "\x02\x01a", "\x02\x021b"}
	l := classes(classIs("c", "p", "q"), classIs("d", "p"), classIs("e"), classIs("d"))
	rows, got := []string{""}, 0
	for range 5 {
		var more []string
		for _, row := range rows {
			for _, p := range pieces {
				more = append(more, row+p)
			}
		}
		rows = more
		for _, row := range rows {
			want, err := ownGet(l, 7, row)
			f, e := Get(l, 7, row)
			if e != err || !alike(f, want) {
				t.Fatalf("Get(%x) = %s, %d; want %s, %d", row, short(f), int(e), short(want), int(err))
			}
			if err == api.OK {
				got++
			}
		}
	}
	if got < 20 {
		t.Errorf("%d rows are facts'", got)
	}
}
