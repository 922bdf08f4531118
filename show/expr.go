package show

import (
	"slices"

	"intarsia/api"
)

// expr lays an expression, and nothing of items that are none. Constants and
// variables stand in the items' order; it is the operations that go from behind
// what they are of to ahead of it.
func expr(put puts, l []api.Item) {
	ahead, ok := heads(l)
	if !ok {
		return
	}
	for i, x := range l {
		if sign(x.Kind) != "" {
			put(")")
			continue
		}
		if i > 0 {
			put(" ")
		}
		for _, kind := range slices.Backward(ahead[i]) {
			put("(", sign(kind), " ")
		}
		item(put, x)
	}
}

// item lays a constant or a variable.
func item(put puts, x api.Item) {
	if x.Kind == api.Variable {
		variable(put, x.Var)
	} else {
		val(put, x.Val)
	}
}

// heads tells of each item the operations whose text begins with it, the
// innermost one first, and whether the items are an expression. The pile of texts
// holds where each one begins, not the texts: to put these together at each
// operation would lay a deep one's many times.
func heads(l []api.Item) ([][]uint8, bool) {
	ahead := make([][]uint8, len(l))
	var pile []int
	for i, x := range l {
		switch x.Kind {
		case api.Constant, api.Variable:
			pile = append(pile, i)
		case api.Plus, api.Minus, api.Times:
			if len(pile) < 2 {
				return nil, false
			}
			pile = pile[:len(pile)-1]
			first := pile[len(pile)-1]
			ahead[first] = append(ahead[first], x.Kind)
		default:
			return nil, false
		}
	}
	return ahead, len(pile) == 1
}

// sign tells the sign of an operation, and nothing of other items.
func sign(kind uint8) string {
	switch kind {
	case api.Plus:
		return "+"
	case api.Minus:
		return "-"
	case api.Times:
		return "*"
	}
	return ""
}
