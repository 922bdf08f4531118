package show

import "strings"

// puts lays texts behind those that were laid. It is handed on to whatever has
// a part of a text, so that each part is laid once, however deep it stands.
type puts func(l ...string)

// told tells what is laid of a thing.
func told[T any](lay func(puts, T), of T) string {
	var b strings.Builder
	lay(func(l ...string) {
		for _, s := range l {
			b.WriteString(s)
		}
	}, of)
	return b.String()
}

// each lays each thing of a list, with a blank ahead.
func each[T any](put puts, l []T, lay func(puts, T)) {
	for _, x := range l {
		put(" ")
		lay(put, x)
	}
}
