package parse

import (
	"math/rand"
	"reflect"
	"slices"
	"strconv"
	"strings"
	"testing"

	"intarsia/api"
	"intarsia/lex"
)

// drawer draws programs, and lays their tokens' texts, a Not with its `(`.
type drawer struct {
	*rand.Rand
	texts []string
}

func (d *drawer) lay(l ...string) { d.texts = append(d.texts, l...) }

func (d *drawer) name() string {
	l := names()
	return l[d.Intn(len(l))]
}

// laidName draws a name, and lays it behind a text, and ahead of another.
func (d *drawer) laidName(ahead, behind string) string {
	n := d.name()
	d.lay(ahead + n + behind)
	return n
}

func (d *drawer) value() api.Value {
	switch d.Intn(4) {
	case 0:
		d.lay("nil")
		return api.Value{}
	case 1:
		n := (d.Intn(2*most+1) - most) >> d.Intn(41)
		d.lay(strconv.Itoa(n))
		return num(n)
	}
	return sym(d.laidName("", ""))
}

// drawn draws from least to greatest parts.
func drawn[T any](d *drawer, least, greatest int, part func() T) []T {
	var l []T
	for range least + d.Intn(greatest-least+1) {
		l = append(l, part())
	}
	return l
}

func (d *drawer) program() api.Program {
	var p api.Program
	for range d.Intn(6) {
		if d.Intn(3) == 0 {
			d.lay("(", "literalize")
			p.Classes = append(p.Classes, api.Class{Name: d.laidName("", ""), Attrs: drawn(d, 1, 6, func() string { return d.laidName("", "") })})
			d.lay(")")
		} else {
			p.Rules = append(p.Rules, d.rule())
		}
	}
	return p
}

func (d *drawer) rule() api.Rule {
	d.lay("(", "p")
	r := api.Rule{Name: d.laidName("", "")}
	r.Conds = drawn(d, 1, 5, d.cond)
	d.lay("-->")
	r.Acts = drawn(d, 0, 8, d.act)
	d.lay(")")
	return r
}

func (d *drawer) cond() api.Cond {
	c := api.Cond{Neg: d.Intn(3) == 0}
	if c.Neg {
		d.lay("-(")
	} else {
		d.lay("(")
	}
	c.Class = d.laidName("", "")
	c.Attrs = drawn(d, 0, d.Intn(7), d.attrTest)
	d.lay(")")
	return c
}

func (d *drawer) attrTest() api.AttrTest {
	a := api.AttrTest{Attr: d.laidName("^", "")}
	switch d.Intn(3) {
	case 0:
		d.lay("<<")
		a.Ones = drawn(d, 1, 8, d.value)
		d.lay(">>")
	case 1:
		d.lay("{")
		a.Tests = drawn(d, 1, 8, d.test)
		d.lay("}")
	default:
		a.Tests = drawn(d, 1, 1, d.test)
	}
	return a
}

func (d *drawer) test() api.Test {
	var t api.Test
	if d.Intn(3) > 0 {
		t.Pred = uint8(d.Intn(6))
		d.lay([]string{"=", "<>", "<", "<=", ">", ">="}[t.Pred])
	}
	if d.Intn(2) == 0 {
		t.Var = d.laidName("<", ">")
	} else {
		t.Val = d.value()
	}
	return t
}

func (d *drawer) act() api.Act {
	a := api.Act{Kind: uint8(d.Intn(6))}
	d.lay("(", []string{"make", "modify", "remove", "bind", "write", "halt"}[a.Kind])
	switch a.Kind {
	case 0:
		a.Class = d.laidName("", "")
	case 1, 2:
		a.N = d.Intn(100) - 50
		d.lay(strconv.Itoa(a.N))
	case 3:
		a.Var = d.laidName("<", ">")
		a.Exprs = drawn(d, 1, 1, d.expr)
	case 4:
		a.Exprs = drawn(d, 0, 8, d.expr)
	}
	if a.Kind < 2 {
		a.Sets = drawn(d, 0, 6, func() api.Set { return api.Set{Attr: d.laidName("^", ""), Expr: d.expr()} })
	}
	d.lay(")")
	return a
}

func (d *drawer) expr() []api.Item { return d.items(0) }

func (d *drawer) items(within int) []api.Item {
	if within == 8 || d.Intn(3) > 0 {
		if d.Intn(2) == 0 {
			return items(variable(d.laidName("<", ">")))
		}
		return items(constant(d.value()))
	}
	kind := d.Intn(3)
	d.lay("(", "+-*"[kind:kind+1])
	l := append(d.items(within+1), d.items(within+1)...)
	d.lay(")")
	return append(l, op(uint8(2+kind)))
}

// mayTouch tells whether two tokens are the same without white between them.
func mayTouch(a, b string) bool {
	if a == "-" && b == "(" {
		return false
	}
	brackets := []string{"(", ")", "{", "}"}
	return a == "-(" || slices.Contains(brackets, a) || slices.Contains(brackets, b)
}

// whites puts white between texts: none, where that may be, a blank, or drawn
// white with remarks.
func (d *drawer) whites(how int) string {
	some := []string{" ", "\t", "\n", "\r", "\r\n", ";\n", "; (p r ) --> #\xff\n", " ;;-(\n", "\n\n\t"}
	s := ""
	for i, x := range d.texts {
		s += x
		next := ""
		if i+1 < len(d.texts) {
			next = d.texts[i+1]
		}
		switch {
		case how == 0:
			s += " "
		case how == 1 && mayTouch(x, next):
		default:
			s += strings.Join(drawn(d, 1, 3, func() string { return some[d.Intn(len(some))] }), "")
		}
	}
	return s
}

// drawnTexts draws a program, and its texts with a blank between each two
// tokens, with as little white as may be, and with a lot of it.
func drawnTexts(r *rand.Rand) (api.Program, []string) {
	for {
		d := &drawer{Rand: r}
		p := d.program()
		l := []string{d.whites(0), d.whites(1), d.whites(2), " ;\n" + d.whites(1) + ";)", d.whites(2) + "\r"}
		if !slices.ContainsFunc(l, func(s string) bool { return len(s) > maxText }) {
			return p, l
		}
	}
}

// P15.1, P15.3: drawn programs, with other white between their tokens.
func TestDrawn(t *testing.T) {
	r := rand.New(rand.NewSource(151))
	for range 600 {
		p, texts := drawnTexts(r)
		for _, text := range texts {
			wantProgram(t, text, p)
			if q, _ := Parse(text); !Same(p, q) {
				t.Errorf("%q is not the same", text)
			}
		}
		if t.Failed() {
			return
		}
	}
}

// P15.3: white between tokens changes nothing, whatever the tokens are.
func TestWhite(t *testing.T) {
	r := rand.New(rand.NewSource(153))
	some := []string{" ", "\t", "\n", "\r", "; )\n", "\n;#\n\n", ";\n"}
	for range 20000 {
		texts := drawnPieces(r, 12)
		a, b := "", some[r.Intn(len(some))]
		for _, x := range texts {
			a += x + " "
			b += x + some[r.Intn(len(some))]
		}
		p, e := Parse(a)
		q, f := Parse(b)
		if e != f || !Same(p, q) || !samePrograms(p, q) {
			t.Fatalf("%q: %+v, %d; %q: %+v, %d", a, p, int(e), b, q, int(f))
		}
	}
}

// drawnPieces draws tokens' texts, in part of a program, in part any.
func drawnPieces(r *rand.Rand, some int) []string {
	all := []string{"(", ")", "(", ")", "{", "}", "<<", ">>", "-->", "-(", "^b", "<x>", "=", "<>", "5", "a", "nil", "+", "-", "p", "literalize", "make", "modify", "remove", "bind", "write", "halt"}
	l := strings.Fields(strings.ReplaceAll(whole, "- (", "-("))
	for range r.Intn(4) {
		at, to := r.Intn(len(l)), r.Intn(len(l))
		l[at] = l[to]
	}
	from := r.Intn(2) * r.Intn(len(l))
	l = l[from:]
	if r.Intn(2) == 0 {
		l = l[:r.Intn(some)%len(l)]
		for range r.Intn(some) {
			l = append(l, all[r.Intn(len(all))])
		}
	}
	return l
}

// P15.1: drawn texts of tokens: no panic, and what the grammar tells; with an
// error the zero program.
func TestDrawnPieces(t *testing.T) {
	r := rand.New(rand.NewSource(1511))
	read := map[api.Errno]int{}
	for range 30000 {
		read[wantAsGrammar(t, strings.Join(drawnPieces(r, 20), " "))]++
	}
	if read[api.OK] < 1000 || read[api.ErrParse] < 10000 {
		t.Errorf("%v", read)
	}
}

// P15.1: drawn bytes: no panic, and what the grammar tells.
func TestDrawnBytes(t *testing.T) {
	r := rand.New(rand.NewSource(1512))
	for range 20000 {
		b := []byte(joined(pieces(whole)))
		for range 1 + r.Intn(3) {
			b[r.Intn(len(b))] = byte(r.Intn(256))
		}
		wantAsGrammar(t, string(b))
		c := make([]byte, r.Intn(40))
		r.Read(c)
		wantAsGrammar(t, string(c))
	}
}

// P15.1: the tokens' places are no matter: a text is read as its tokens' texts.
func TestTokensTexts(t *testing.T) {
	r := rand.New(rand.NewSource(1513))
	for range 500 {
		p, texts := drawnTexts(r)
		tokens, _, err := lex.Scan(texts[2])
		if err != api.OK {
			t.Fatal(int(err))
		}
		text := ""
		for _, x := range tokens {
			text += lex.Text(x)
			if x.Kind != lex.Not {
				text += " "
			}
		}
		wantProgram(t, text, p)
	}
}

// memory tells where a program's lists have their room.
func memory(p api.Program) [][2]uintptr {
	var l [][2]uintptr
	eachPart(reflect.ValueOf(p), func(v reflect.Value) {
		if v.Kind() == reflect.Slice && v.Cap() > 0 {
			l = append(l, [2]uintptr{v.Pointer(), v.Pointer() + uintptr(v.Cap())*v.Type().Elem().Size()})
		}
	})
	return l
}

// Rule 3: an answer is new memory, its spare room, too: no two lists share any.
func TestNewMemory(t *testing.T) {
	r := rand.New(rand.NewSource(1514))
	for range 300 {
		_, texts := drawnTexts(r)
		p, _ := Parse(texts[0])
		q, _ := Parse(texts[0])
		l := append(memory(p), memory(q)...)
		slices.SortFunc(l, func(a, b [2]uintptr) int { return int(a[0]) - int(b[0]) })
		for i := 1; i < len(l); i++ {
			if l[i][0] < l[i-1][1] {
				t.Fatalf("%q: two lists share memory", texts[0])
			}
		}
	}
}
