package num

import (
	"bytes"
	"cmp"
	"math"
	"strings"
	"testing"

	"intarsia/api"
)

// wrongWidths are those that P1.1 rules out: the edges and far beyond them.
var wrongWidths = []int{math.MinInt, -8, -1, 0, 7, 8, 64, math.MaxInt}

func checkBytes(t *testing.T, what string, got []byte, err api.Errno, want []byte, wantErr api.Errno) {
	t.Helper()
	if err != wantErr || !bytes.Equal(got, want) {
		t.Errorf("%s = % x, %d; want % x, %d", what, got, int(err), want, int(wantErr))
	}
}

func checkNumber(t *testing.T, what string, got int, err api.Errno, want int, wantErr api.Errno) {
	t.Helper()
	if err != wantErr || got != want {
		t.Errorf("%s = %d, %d; want %d, %d", what, got, int(err), want, int(wantErr))
	}
}

// P1.1

func TestPutLaysTheHighestByteFirst(t *testing.T) {
	for _, c := range []struct {
		n, width int
		want     []byte
	}{
		{0, 1, []byte{0}},
		{5, 1, []byte{5}},
		{258, 2, []byte{1, 2}},
		{258, 3, []byte{0, 1, 2}},
		{0x01020304, 4, []byte{1, 2, 3, 4}},
		{0x0102030405, 5, []byte{1, 2, 3, 4, 5}},
		{0x010203040506, 6, []byte{1, 2, 3, 4, 5, 6}},
		{0, 6, []byte{0, 0, 0, 0, 0, 0}},
	} {
		b, err := Put(c.n, c.width)
		checkBytes(t, "Put", b, err, c.want, api.OK)
	}
}

func TestPutWithJustRoomAndJustNone(t *testing.T) {
	for width := 1; width <= 6; width++ {
		room := 1 << (8 * width)
		b, err := Put(room-1, width)
		checkBytes(t, "Put with just room", b, err, bytes.Repeat([]byte{255}, width), api.OK)
		for _, n := range []int{room, room + 1, math.MaxInt, -1, -room, math.MinInt} {
			b, err := Put(n, width)
			checkBytes(t, "Put without room", b, err, nil, api.ErrRange)
		}
	}
}

func TestPutOfAWrongWidth(t *testing.T) {
	for _, width := range wrongWidths {
		for _, n := range []int{0, 1, -1, math.MaxInt, math.MinInt} {
			b, err := Put(n, width)
			checkBytes(t, "Put", b, err, nil, api.ErrArg)
		}
	}
}

func TestGetReadsTheFirstBytes(t *testing.T) {
	b := []byte{1, 2, 3, 4, 5, 6, 7}
	wants := []int{0x01, 0x0102, 0x010203, 0x01020304, 0x0102030405, 0x010203040506}
	for i, want := range wants {
		width := i + 1
		n, err := Get(b, width)
		checkNumber(t, "Get of more bytes", n, err, want, api.OK)
		n, err = Get(b[:width], width)
		checkNumber(t, "Get of just enough bytes", n, err, want, api.OK)
		n, err = Get(b[:width-1], width)
		checkNumber(t, "Get of one byte too few", n, err, 0, api.ErrCut)
		n, err = Get(nil, width)
		checkNumber(t, "Get of nil", n, err, 0, api.ErrCut)
	}
	if !bytes.Equal(b, []byte{1, 2, 3, 4, 5, 6, 7}) {
		t.Errorf("Get changed its argument: % x", b)
	}
}

func TestGetOfHighBytes(t *testing.T) {
	n, err := Get(bytes.Repeat([]byte{255}, 6), 6)
	checkNumber(t, "Get", n, err, 1<<48-1, api.OK)
	n, err = Get([]byte{128, 0}, 2)
	checkNumber(t, "Get", n, err, 1<<15, api.OK)
}

func TestGetOfAWrongWidth(t *testing.T) {
	for _, width := range wrongWidths {
		for _, b := range [][]byte{nil, {1}, make([]byte, 16)} {
			n, err := Get(b, width)
			checkNumber(t, "Get", n, err, 0, api.ErrArg)
		}
	}
}

// P1.2

func TestTextLaysLengthAndBytes(t *testing.T) {
	for _, s := range []string{"", "a", "ab", "\x00\xff\x80", "ä", strings.Repeat("x", 254), strings.Repeat("y", 255)} {
		b, err := Text(s)
		checkBytes(t, "Text", b, err, []byte(string([]byte{byte(len(s))})+s), api.OK)
	}
}

func TestTextThatIsTooLong(t *testing.T) {
	for _, size := range []int{256, 257, 512, 70000} {
		b, err := Text(strings.Repeat("x", size))
		checkBytes(t, "Text", b, err, nil, api.ErrLong)
	}
}

func TestSignAndSigned(t *testing.T) {
	for _, c := range []struct {
		n int
		b []byte
	}{
		{-1 << 40, []byte{0, 0, 0, 0, 0, 0}},
		{-1<<40 + 1, []byte{0, 0, 0, 0, 0, 1}},
		{-1, []byte{0, 255, 255, 255, 255, 255}},
		{0, []byte{1, 0, 0, 0, 0, 0}},
		{1, []byte{1, 0, 0, 0, 0, 1}},
		{258, []byte{1, 0, 0, 0, 1, 2}},
		{1<<40 - 1, []byte{1, 255, 255, 255, 255, 255}},
		{1 << 40, []byte{2, 0, 0, 0, 0, 0}},
	} {
		b, err := Sign(c.n)
		checkBytes(t, "Sign", b, err, c.b, api.OK)
		n, err := Signed(c.b)
		checkNumber(t, "Signed", n, err, c.n, api.OK)
		n, err = Signed(append(bytes.Clone(c.b), 9, 9))
		checkNumber(t, "Signed of more bytes", n, err, c.n, api.OK)
	}
}

func TestSignBeyondItsRange(t *testing.T) {
	for _, n := range []int{-1<<40 - 1, 1<<40 + 1, -1 << 41, 1 << 41, math.MinInt, math.MaxInt, math.MaxInt - 1<<40 + 1} {
		b, err := Sign(n)
		checkBytes(t, "Sign", b, err, nil, api.ErrRange)
	}
}

func TestSignedOfWrongBytes(t *testing.T) {
	for size := range 6 {
		n, err := Signed(bytes.Repeat([]byte{255}, size))
		checkNumber(t, "Signed of too few bytes", n, err, 0, api.ErrCut)
	}
	for _, b := range [][]byte{{2, 0, 0, 0, 0, 1}, {2, 0, 0, 0, 1, 0}, {3, 0, 0, 0, 0, 0}, {255, 255, 255, 255, 255, 255}, {2, 0, 0, 0, 0, 1, 0}} {
		n, err := Signed(b)
		checkNumber(t, "Signed of too much", n, err, 0, api.ErrRange)
	}
}

// P1.3

func checkReader(t *testing.T, what string, r *Reader, left int, err, done api.Errno) {
	t.Helper()
	if r.Left() != left || r.Err() != err || r.Done() != done {
		t.Errorf("%s: Left %d, Err %d, Done %d; want %d, %d, %d",
			what, r.Left(), int(r.Err()), int(r.Done()), left, int(err), int(done))
	}
}

// checkTakesNothing tells that a reader behind its first error, or nil, stays as it is.
func checkTakesNothing(t *testing.T, r *Reader) {
	t.Helper()
	left, err, done := r.Left(), r.Err(), r.Done()
	for _, width := range []int{-1, 0, 1, 2, 6, 7} {
		if n := r.Num(width); n != 0 {
			t.Errorf("Num(%d) = %d behind an error", width, n)
		}
	}
	if s := r.Text(); s != "" {
		t.Errorf("Text = %q behind an error", s)
	}
	if n := r.Signed(); n != 0 {
		t.Errorf("Signed = %d behind an error", n)
	}
	checkReader(t, "behind an error", r, left, err, done)
}

func TestReaderTakesOneBehindTheOther(t *testing.T) {
	r := New([]byte("\x02ab\x01\x02\x00\xff\xff\xff\xff\xff\x00\x07"))
	checkReader(t, "at first", r, 13, api.OK, api.ErrForm)
	if s := r.Text(); s != "ab" {
		t.Errorf("Text = %q", s)
	}
	checkReader(t, "behind a text", r, 10, api.OK, api.ErrForm)
	if n := r.Num(2); n != 258 {
		t.Errorf("Num = %d", n)
	}
	checkReader(t, "behind a number", r, 8, api.OK, api.ErrForm)
	if n := r.Signed(); n != -1 {
		t.Errorf("Signed = %d", n)
	}
	checkReader(t, "behind a signed number", r, 2, api.OK, api.ErrForm)
	if s := r.Text(); s != "" {
		t.Errorf("Text = %q", s)
	}
	checkReader(t, "behind an empty text", r, 1, api.OK, api.ErrForm)
	if n := r.Num(1); n != 7 {
		t.Errorf("Num = %d", n)
	}
	checkReader(t, "at its end", r, 0, api.OK, api.OK)
}

func TestReaderTakesWhatIsJustThere(t *testing.T) {
	for _, s := range []string{"", "ab", strings.Repeat("z", 255)} {
		laid, _ := Text(s)
		r := New(laid)
		if got := r.Text(); got != s {
			t.Errorf("Text = %q, want %q", got, s)
		}
		checkReader(t, "behind its only text", r, 0, api.OK, api.OK)
	}
	r := New([]byte{2, 0, 0, 0, 0, 0})
	if n := r.Signed(); n != api.MaxInt {
		t.Errorf("Signed = %d", n)
	}
	checkReader(t, "behind its only signed number", r, 0, api.OK, api.OK)
}

func TestReaderAtItsEnd(t *testing.T) {
	for name, take := range map[string]func(*Reader){
		"Num":    func(r *Reader) { r.Num(1) },
		"Text":   func(r *Reader) { r.Text() },
		"Signed": func(r *Reader) { r.Signed() },
	} {
		for _, b := range [][]byte{nil, {}} {
			r := New(b)
			checkReader(t, "of no bytes", r, 0, api.OK, api.OK)
			take(r)
			checkReader(t, name+" at the end", r, 0, api.ErrCut, api.ErrCut)
			checkTakesNothing(t, r)
		}
	}
}

func TestReaderKeepsItsFirstError(t *testing.T) {
	for name, c := range map[string]struct {
		bytes string
		take  func(*Reader) bool // whether it answers what is not 0 or nothing
		err   api.Errno
	}{
		"Num of width 0":         {"\x01\x02", func(r *Reader) bool { return r.Num(0) != 0 }, api.ErrArg},
		"Num of width 7":         {"\x01\x02\x03\x04\x05\x06\x07\x08", func(r *Reader) bool { return r.Num(7) != 0 }, api.ErrArg},
		"Num of a width below 0": {"\x01\x02", func(r *Reader) bool { return r.Num(-1) != 0 }, api.ErrArg},
		"Num, cut":               {"\x01\x02", func(r *Reader) bool { return r.Num(3) != 0 }, api.ErrCut},
		"Text, cut by one byte":  {"\x03ab", func(r *Reader) bool { return r.Text() != "" }, api.ErrCut},
		"Text, its length alone": {"\xff", func(r *Reader) bool { return r.Text() != "" }, api.ErrCut},
		"Signed, cut":            {"\x01\x00\x00\x00\x01", func(r *Reader) bool { return r.Signed() != 0 }, api.ErrCut},
		"Signed, too much":       {"\x02\x00\x00\x00\x00\x01\x01", func(r *Reader) bool { return r.Signed() != 0 }, api.ErrRange},
	} {
		r := New([]byte(c.bytes))
		if c.take(r) {
			t.Errorf("%s answers something beside its error", name)
		}
		checkReader(t, name, r, len(c.bytes), c.err, c.err)
		checkTakesNothing(t, r)
	}
}

func TestReaderGoesOnBehindDone(t *testing.T) {
	r := New([]byte{1, 2})
	if err := r.Done(); err != api.ErrForm {
		t.Errorf("Done = %d", int(err))
	}
	if n := r.Num(2); n != 258 || r.Err() != api.OK {
		t.Errorf("Num = %d, Err %d: that bytes were left is no error of the reader", n, int(r.Err()))
	}
}

func TestReaderHasTheBytesAsTheyWere(t *testing.T) {
	b := []byte("\x02ab\x05")
	r := New(b)
	copy(b, "\x00\x00\x00\x00")
	if s := r.Text(); s != "ab" {
		t.Errorf("Text = %q", s)
	}
	if n := r.Num(1); n != 5 {
		t.Errorf("Num = %d", n)
	}
	if !bytes.Equal(b, make([]byte, 4)) {
		t.Errorf("the reader changed its argument: % x", b)
	}
}

func TestReadersAreApart(t *testing.T) {
	b := []byte{1, 2}
	one, other := New(b), New(b)
	one.Num(0)
	if n := other.Num(2); n != 258 {
		t.Errorf("Num = %d", n)
	}
}

func TestNilReader(t *testing.T) {
	var r *Reader
	checkReader(t, "nil", r, 0, api.ErrNil, api.ErrNil)
	checkTakesNothing(t, r)
}

// P1.4

// signedSamples are 0, the edges, and numbers beside powers of two, of both signs.
func signedSamples() []int {
	l := []int{0}
	for i := range 41 {
		for _, n := range []int{1 << i, 1<<i - 1, 1 << i / 3} {
			l = append(l, n, -n)
		}
	}
	return l
}

func TestSignedNumbersAndTheirBytesHaveOneOrder(t *testing.T) {
	l := signedSamples()
	for _, n := range l {
		b, err := Sign(n)
		if err != api.OK {
			t.Fatalf("Sign(%d): %d", n, int(err))
		}
		back, err := Signed(b)
		checkNumber(t, "Signed of Sign", back, err, n, api.OK)
		for _, m := range l {
			other, _ := Sign(m)
			if bytes.Compare(b, other) != cmp.Compare(n, m) {
				t.Errorf("%d and %d lie as % x and % x", n, m, b, other)
			}
		}
	}
}

func TestWhatIsPutIsGot(t *testing.T) {
	for width := 1; width <= 6; width++ {
		for i := range 8*width + 1 {
			for _, n := range []int{1<<i - 1, 1<<i - 2, 1 << i / 3} {
				if n < 0 {
					continue
				}
				b, err := Put(n, width)
				if err != api.OK || len(b) != width {
					t.Fatalf("Put(%d, %d) = % x, %d", n, width, b, int(err))
				}
				got, err := Get(b, width)
				checkNumber(t, "Get of Put", got, err, n, api.OK)
				if got := New(b).Num(width); got != n {
					t.Errorf("Num = %d, want %d", got, n)
				}
			}
		}
	}
}

func TestWhatIsLaidIsTakenOff(t *testing.T) {
	for size := range 256 {
		s := strings.Repeat("\xfe", size)
		laid, _ := Text(s)
		number, _ := Put(size*size, 3)
		signed, _ := Sign(-size)
		r := New(append(append(laid, number...), signed...))
		if got := r.Text(); got != s {
			t.Errorf("Text = %q, want %q", got, s)
		}
		if got := r.Num(3); got != size*size {
			t.Errorf("Num = %d, want %d", got, size*size)
		}
		if got := r.Signed(); got != -size {
			t.Errorf("Signed = %d, want %d", got, -size)
		}
		checkReader(t, "all taken off", r, 0, api.OK, api.OK)
	}
}

// Rule 3 of the whole: an answer is new memory, its spare room too.

func TestAnswersAreNewMemory(t *testing.T) {
	for name, lay := range map[string]func() []byte{
		"Put":  func() []byte { b, _ := Put(258, 2); return b },
		"Text": func() []byte { b, _ := Text("ab"); return b },
		"Sign": func() []byte { b, _ := Sign(7); return b },
	} {
		one, other := lay(), lay()
		want := bytes.Clone(other)
		spare := one[:cap(one)]
		for i := range spare {
			spare[i] = 0xee
		}
		if !bytes.Equal(other, want) || !bytes.Equal(lay(), want) {
			t.Errorf("%s: two answers share memory", name)
		}
	}
}
