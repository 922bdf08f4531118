package exthash

import "intarsia/api"

// told is an error that the pool told. What the step has changed by then stays
// changed, so the table is bad.
type told api.Errno

// wrong is an error that is found ahead of all changes.
type wrong api.Errno

// attempt takes a step upon a table that is to be there, and not bad. A step
// has calls of the pool deep within it, of which each may go wrong: it is given
// up by a panic then, which ends here.
func (t *Table) attempt(step func()) (err api.Errno) {
	if t == nil {
		return api.ErrNil
	}
	if t.bad {
		return api.ErrState
	}
	defer func() {
		switch x := recover().(type) {
		case nil:
		case told:
			t.bad, err = true, api.Errno(x)
		case wrong:
			err = api.Errno(x)
		default: // a fault of this package: to hide it would help nobody
			panic(x)
		}
	}()
	step()
	return api.OK
}

// must gives the step up, if the pool told an error.
func must(err api.Errno) {
	if err != api.OK {
		panic(told(err))
	}
}

// sound gives the step up, if a page is not as it is to be.
func sound(as bool) {
	if !as {
		panic(wrong(api.ErrForm))
	}
}
