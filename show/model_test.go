package show

import (
	"fmt"

	"intarsia/api"
	"intarsia/value"
)

// The chapter's words, written apart from the program: each part's text is
// joined of its parts' texts.

// pileText tells an expression's text by a pile of texts.
func pileText(l []api.Item) (string, bool) {
	var pile []string
	for _, x := range l {
		n := len(pile)
		switch {
		case x.Kind == 0:
			pile = append(pile, value.Text(x.Val))
		case x.Kind == 1:
			pile = append(pile, "<"+x.Var+">")
		case x.Kind <= 4 && n >= 2:
			pile = append(pile[:n-2], fmt.Sprintf("(%c %s %s)", "+-*"[x.Kind-2], pile[n-2], pile[n-1]))
		default:
			return "", false
		}
	}
	if len(pile) != 1 {
		return "", false
	}
	return pile[0], true
}

func exprText(l []api.Item) string {
	s, _ := pileText(l)
	return s
}

// blanked joins texts, each with a blank ahead.
func blanked[T any](l []T, text func(T) string) string {
	s := ""
	for _, x := range l {
		s += " " + text(x)
	}
	return s
}

func singleText(t api.Test) string {
	s := value.Text(t.Val)
	if t.Var != "" {
		s = "<" + t.Var + ">"
	}
	if t.Pred == 0 {
		return s
	}
	return value.Sign(t.Pred) + " " + s
}

func testText(a api.AttrTest) string {
	if len(a.Ones) != 0 {
		return "^" + a.Attr + " <<" + blanked(a.Ones, value.Text) + " >>"
	}
	if len(a.Tests) == 1 {
		return "^" + a.Attr + " " + singleText(a.Tests[0])
	}
	return "^" + a.Attr + " {" + blanked(a.Tests, singleText) + " }"
}

func condText(c api.Cond) string {
	s := "(" + c.Class + blanked(c.Attrs, testText) + ")"
	if c.Neg {
		return "-" + s
	}
	return s
}

func setText(s api.Set) string { return "^" + s.Attr + " " + exprText(s.Expr) }

func actText(a api.Act) string {
	sets, exprs := blanked(a.Sets, setText), blanked(a.Exprs, exprText)
	l := []string{
		"(make " + a.Class + sets + ")",
		fmt.Sprintf("(modify %d%s)", a.N, sets),
		fmt.Sprintf("(remove %d)", a.N),
		"(bind <" + a.Var + ">" + exprs + ")",
		"(write" + exprs + ")",
		"(halt)",
	}
	if int(a.Kind) >= len(l) {
		return ""
	}
	return l[a.Kind]
}

func ruleText(r api.Rule) string {
	return "(p " + r.Name + blanked(r.Conds, condText) + " -->" + blanked(r.Acts, actText) + ")"
}

func programText(p api.Program) string {
	s := ""
	for _, c := range p.Classes {
		s += "(literalize " + c.Name + blanked(c.Attrs, func(a string) string { return a }) + ")\n"
	}
	for _, r := range p.Rules {
		s += ruleText(r) + "\n"
	}
	return s
}
