package fact

import (
	"encoding/hex"
	"fmt"
	"regexp"
	"strconv"
	"strings"

	"intarsia/api"
	"intarsia/class"
	"intarsia/value"
)

// The chapter's words, written apart from the program: bytes are told as hex, and
// what Put lays of a value is a pattern of such digits.

var (
	keyForm    = regexp.MustCompile(`^77([0-9a-f]{12})$`)
	nothingIs  = regexp.MustCompile(`^00`)
	numberIs   = regexp.MustCompile(`^01([0-9a-f]{12})`)
	symbolIs   = regexp.MustCompile(`^02([0-9a-f]{2})`)
	leastValue = 1 << 40 // is added to a number, so that it is not below 0
)

// bytesOf tells the bytes of hex digits.
func bytesOf(digits string) string {
	b, err := hex.DecodeString(strings.ReplaceAll(digits, " ", ""))
	if err != nil {
		panic(err)
	}
	return string(b)
}

func digitsOf(s string) string { return hex.EncodeToString([]byte(s)) }

func numberOf(digits string) int {
	n, err := strconv.ParseInt(digits, 16, 64)
	if err != nil {
		panic(err)
	}
	return int(n)
}

func ownKey(tag int) (string, api.Errno) {
	if tag <= 0 || tag > mostTag {
		return "", 22
	}
	return bytesOf(fmt.Sprintf("77%012x", tag)), 0
}

func ownTag(key string) (int, api.Errno) {
	if len(key) > 100 {
		return 0, 4
	}
	m := keyForm.FindStringSubmatch(digitsOf(key))
	if m == nil || numberOf(m[1]) == 0 || numberOf(m[1]) > mostTag {
		return 0, 4
	}
	return numberOf(m[1]), 0
}

// firstPlace tells the place of the first class of a name.
func firstPlace(l []api.Class, name string) int {
	for i, c := range l {
		if c.Name == name {
			return i
		}
	}
	return -1
}

func ownPut(l []api.Class, f api.Fact) (string, api.Errno) {
	if err := class.Check(l, f); err != 0 {
		return "", err
	}
	at := firstPlace(l, f.Class)
	if at >= 256 {
		return "", 5
	}
	digits := []string{fmt.Sprintf("%02x", at)}
	for _, v := range f.Vals {
		switch v.Kind {
		case 0:
			digits = append(digits, "00")
		case 1:
			digits = append(digits, fmt.Sprintf("01%012x", v.N+leastValue))
		case 2:
			digits = append(digits, fmt.Sprintf("02%02x%x", len(v.S), v.S))
		}
	}
	all := strings.Join(digits, "")
	if len(all)/2 > most {
		return "", 5
	}
	return bytesOf(all), 0
}

func ownGet(l []api.Class, tag int, val string) (api.Fact, api.Errno) {
	none := api.Fact{}
	if tag <= 0 || tag > mostTag || len(val) == 0 || len(val) > most {
		return none, 4
	}
	at := int(val[0])
	if at >= len(l) || firstPlace(l, l[at].Name) != at {
		return none, 4
	}
	f := api.Fact{Tag: tag, Class: l[at].Name}
	left := digitsOf(val[1:])
	for left != "" {
		v, n := ownValue(left)
		if n == 0 || value.Check(v) != 0 {
			return none, 4
		}
		f.Vals, left = append(f.Vals, v), left[n:]
	}
	if len(f.Vals) != len(l[at].Attrs) {
		return none, 4
	}
	return f, 0
}

// ownValue tells the value that some digits begin with, and how many of them it has;
// 0, if there is none.
func ownValue(digits string) (api.Value, int) {
	if nothingIs.MatchString(digits) {
		return api.Value{}, 2
	}
	if m := numberIs.FindStringSubmatch(digits); m != nil {
		return api.Value{Kind: 1, N: numberOf(m[1]) - leastValue}, len(m[0])
	}
	m := symbolIs.FindStringSubmatch(digits)
	if m == nil || len(digits) < len(m[0])+2*numberOf(m[1]) {
		return api.Value{}, 0
	}
	end := len(m[0]) + 2*numberOf(m[1])
	return api.Value{Kind: 2, S: bytesOf(digits[len(m[0]):end])}, end
}

// alike tells whether two facts are the same in all fields.
func alike(a, b api.Fact) bool {
	if a.Tag != b.Tag || a.Class != b.Class || len(a.Vals) != len(b.Vals) {
		return false
	}
	for i, v := range a.Vals {
		w := b.Vals[i]
		if v.Kind != w.Kind || v.N != w.N || v.S != w.S {
			return false
		}
	}
	return true
}
