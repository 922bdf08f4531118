package value

import (
	"testing"

	"intarsia/api"
)

// holdsByTable is P13.3, word by word.
func holdsByTable(pred int, a, b api.Value) bool {
	same := a.Kind == b.Kind && a.N == b.N && a.S == b.S
	numbers := a.Kind == 1 && b.Kind == 1
	table := [6]bool{
		same, !same,
		numbers && a.N < b.N, numbers && !(a.N > b.N),
		numbers && a.N > b.N, numbers && !(a.N < b.N),
	}
	return pred < len(table) && table[pred]
}

// asked are values of each kind, those that may not be among them, many of
// which differ in one field alone.
func asked() []api.Value {
	l := []api.Value{
		{}, val(0, 1, ""), val(0, 0, "a"), val(0, 2, ""), val(3, 0, ""), val(3, 1, ""), val(3, 2, ""), val(255, 1, ""), val(255, 1, "a"),
		val(1, -most-1, ""), val(1, most+1, ""), val(1, -1<<63, ""), val(1, 1<<63-1, ""), val(1, 1, "a"), val(1, 2, "a"), val(1, 1, "b"), val(1, 2, "b"),
		val(2, 0, "a"), val(2, 0, "b"), val(2, 1, "a"), val(2, 2, "a"), val(2, 1, ""), val(2, 0, ""), val(2, 0, "1"), val(2, 0, "2"), val(2, 0, "nil"), val(2, 0, "A"), val(2, 0, "aa"),
	}
	for _, n := range []int{0, 1, 2, -1, -2, 256, most, -most, most - 1} {
		l = append(l, val(1, n, ""))
	}
	return l
}

// P13.3: each pred of all values.
func TestHolds(t *testing.T) {
	l := asked()
	for pred := range 256 {
		for _, a := range l {
			for _, b := range l {
				if got, want := Holds(uint8(pred), a, b), holdsByTable(pred, a, b); got != want {
					t.Errorf("Holds(%d, %#v, %#v) = %#v, want %#v", pred, a, b, got, want)
				}
			}
		}
	}
}

// P13.3: what holds of numbers, told by hand; columns are the preds from 0 on.
func TestHoldsTold(t *testing.T) {
	for _, c := range []struct {
		a, b api.Value
		want [8]bool
	}{
		{Number(1), Number(2), [8]bool{false, true, true, true, false, false}},
		{Number(2), Number(2), [8]bool{true, false, false, true, false, true}},
		{Number(3), Number(2), [8]bool{false, true, false, false, true, true}},
		{Number(-3), Number(2), [8]bool{false, true, true, true, false, false}},
		{Symbol("a"), Symbol("a"), [8]bool{true}},
		{Symbol("a"), Symbol("b"), [8]bool{false, true}},
		{Number(1), Symbol("a"), [8]bool{false, true}},
		{Symbol("a"), Number(1), [8]bool{false, true}},
		{Number(0), api.Value{}, [8]bool{false, true}},
		{api.Value{}, Number(0), [8]bool{false, true}},
		{api.Value{}, api.Value{}, [8]bool{true}},
		{api.Value{}, Symbol(""), [8]bool{false, true}},
		{val(1, 1, "a"), val(1, 1, "b"), [8]bool{false, true, false, true, false, true}},
		{val(3, 1, ""), val(3, 2, ""), [8]bool{false, true}},
		{val(3, 1, ""), val(3, 1, ""), [8]bool{true}},
	} {
		for pred, want := range c.want {
			if got := Holds(uint8(pred), c.a, c.b); got != want {
				t.Errorf("Holds(%d, %#v, %#v) = %#v", pred, c.a, c.b, got)
			}
		}
	}
}

// P13.3: the signs.
func TestSign(t *testing.T) {
	told := []string{"=", "<>", "<", "<=", ">", ">="}
	for pred := range 256 {
		want := ""
		if pred < len(told) {
			want = told[pred]
		}
		if got := Sign(uint8(pred)); got != want {
			t.Errorf("Sign(%d) = %q, want %q", pred, got, want)
		}
	}
}
