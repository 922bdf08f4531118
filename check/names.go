package check

import "intarsia/api"

// names are those that were met.
type names map[string]struct{}

func (n names) has(name string) bool {
	_, ok := n[name]
	return ok
}

// add tells whether a name that was met is the first of its kind.
func (n names) add(name string) bool {
	if n.has(name) {
		return false
	}
	n[name] = struct{}{}
	return true
}

// addAll adds all of a list, and tells whether each was the first of its kind.
func (n names) addAll(l []string) bool {
	all := true
	for _, name := range l {
		all = n.add(name) && all
	}
	return all
}

// attributes are each class' attributes, by the class' name, so that no class is
// looked for twice. Of two classes of one name the first counts.
func attributes(l []api.Class) map[string]names {
	attrs := map[string]names{}
	for _, c := range l {
		if _, ok := attrs[c.Name]; !ok {
			attrs[c.Name] = names{}
			attrs[c.Name].addAll(c.Attrs)
		}
	}
	return attrs
}
