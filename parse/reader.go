package parse

import (
	"intarsia/api"
	"intarsia/lex"
)

// fault is an error by which a reading is given up.
type fault api.Errno

// reader has the tokens that were not read yet, and whether those that were have
// more of something than may be.
type reader struct {
	tokens []lex.Token
	over   bool
}

// atMost notes it only, if there is more than may be: what is no program is told
// ahead of that, wherever it stands.
func (r *reader) atMost(most, n int) {
	if n > most {
		r.over = true
	}
}

// kept gives the reading up, if there was more of something than may be.
func (r *reader) kept() {
	if r.over {
		panic(fault(api.ErrLimit))
	}
}

// next tells whether the next token is of this kind.
func (r *reader) next(kind uint8) bool {
	return len(r.tokens) > 0 && r.tokens[0].Kind == kind
}

// take reads a token that must be of this kind.
func (r *reader) take(kind uint8) lex.Token {
	if !r.next(kind) {
		panic(fault(api.ErrParse))
	}
	t := r.tokens[0]
	r.tokens = r.tokens[1:]
	return t
}

// pass reads a token, if it is of this kind.
func (r *reader) pass(kind uint8) bool {
	if !r.next(kind) {
		return false
	}
	r.take(kind)
	return true
}

func (r *reader) val() api.Value { return r.take(lex.Val).Val }

func (r *reader) valOf(kind uint8) api.Value {
	v := r.val()
	if v.Kind != kind {
		panic(fault(api.ErrParse))
	}
	return v
}

func (r *reader) name() string { return r.valOf(api.Symbol).S }

func (r *reader) number() int { return r.valOf(api.Number).N }

// several reads parts, as many as there are, and the token that ends them. It
// ends where the tokens do, since a part has at least one.
func several[T any](r *reader, end uint8, most int, part func() T) []T {
	var l []T
	for !r.pass(end) {
		l = append(l, part())
	}
	r.atMost(most, len(l))
	return l
}

// some reads parts of which there must be one at least.
func some[T any](r *reader, end uint8, most int, part func() T) []T {
	l := several(r, end, most, part)
	if len(l) == 0 {
		panic(fault(api.ErrParse))
	}
	return l
}
