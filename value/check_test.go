package value

import (
	"math"
	"math/rand"
	"testing"

	"intarsia/api"
)

// P13.1: values that may be, and those that may not, with the error that is
// named first.
func TestCheckTold(t *testing.T) {
	for _, v := range mayBe() {
		wantErr(t, v, Check(v), api.OK)
	}
	for _, c := range refused() {
		wantErr(t, c.v, Check(c.v), c.want)
	}
}

// fields are what a value's N and S are drawn from.
func fields() ([]int, []string) {
	return []int{0, 1, -1, most, most + 1, -most, -most - 1, math.MaxInt, math.MinInt},
		[]string{"", "a", "nil", "12", "-12", "+12", "-", "+", "a b", "\xff", "\u00e9", "999999999999999999999999"}
}

// P13.1: each kind with each N and each S.
func TestCheckEach(t *testing.T) {
	numbers, texts := fields()
	for kind := range 256 {
		for _, n := range numbers {
			for _, s := range texts {
				v := val(uint8(kind), n, s)
				wantErr(t, v, Check(v), checkByTable(v))
			}
		}
	}
}

// P13.1: drawn values of all kinds.
func TestCheckDrawn(t *testing.T) {
	r := rand.New(rand.NewSource(131))
	for range 30000 {
		v := val(uint8(r.Intn(4)), 0, "")
		if r.Intn(2) == 0 {
			v.N = int(r.Uint64()) >> r.Intn(64)
		}
		if r.Intn(2) == 0 {
			v.S = drawnText(r)
		}
		wantErr(t, v, Check(v), checkByTable(v))
	}
}

// P13.1: Number and Symbol make values as they are told, also those that may
// not be.
func TestNumberAndSymbol(t *testing.T) {
	numbers, texts := fields()
	for _, n := range numbers {
		if v := Number(n); v != val(1, n, "") {
			t.Errorf("Number(%d) = %#v", n, v)
		}
	}
	for _, s := range append(texts, noWords()...) {
		if v := Symbol(s); v != val(2, 0, s) {
			t.Errorf("Symbol(%.40q) = %#v", s, v)
		}
	}
}

// P13.3: the preds' numbers.
func TestPreds(t *testing.T) {
	for want, pred := range []uint8{Is, IsNot, Less, Most, More, Least} {
		if int(pred) != want {
			t.Errorf("%d, want %d", pred, want)
		}
	}
}
