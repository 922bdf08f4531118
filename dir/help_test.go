package dir

import (
	"slices"
	"strconv"
	"testing"

	"intarsia/api"
)

func of(depth int, slots ...int) Dir { return Dir{Depth: depth, Slots: slots} }

// full tells a directory of a depth whose slots are all others, from 1 on.
func full(depth int) Dir {
	d := Dir{Depth: depth}
	for len(d.Slots) < twos(depth) {
		d.Slots = append(d.Slots, len(d.Slots)+1)
	}
	return d
}

// all tells so many slots that are all id.
func all(n, id int) []int { return slices.Repeat([]int{id}, n) }

// twos tells 2 to the power of depth, by doubling.
func twos(depth int) int {
	n := 1
	for range depth {
		n += n
	}
	return n
}

// with tells slots of which the one at a place is another.
func with(slots []int, at, id int) []int {
	l := slices.Clone(slots)
	l[at] = id
	return l
}

func copied(d Dir) Dir {
	d.Slots = slices.Clone(d.Slots)
	return d
}

// equal doesn't lean on Same.
func equal(a, b Dir) bool {
	return a.Depth == b.Depth && slices.Equal(a.Slots, b.Slots)
}

func wantDir(t *testing.T, what string, got, want Dir) {
	t.Helper()
	if !equal(got, want) {
		t.Errorf("%s: %v, want %v", what, got, want)
	}
}

// wantOwn checks that what was answered shares no memory with d, nor with its
// spare room: what is written there must not show.
func wantOwn(t *testing.T, what string, d Dir, made func(Dir) Dir) {
	t.Helper()
	room := make([]int, len(d.Slots)+20)
	for i := range room {
		room[i] = 2000 + i
	}
	copy(room, d.Slots)
	given := Dir{Depth: d.Depth, Slots: room[:len(d.Slots)]}
	kept := slices.Clone(room)
	got := made(given)
	want := copied(got)
	if !slices.Equal(room, kept) {
		t.Errorf("%s: what was given is changed", what)
	}
	for i := range room {
		room[i] = -1
	}
	wantDir(t, what+": behind a change of what was given", got, want)
	copy(room, kept)
	whole := got.Slots[:cap(got.Slots)]
	for i := range whole {
		whole[i] = -2
	}
	if !slices.Equal(room, kept) {
		t.Errorf("%s: a change of what was answered is seen in what was given", what)
	}
}

// refused are directories that may not be, with Check's error.
func refused() []struct {
	d    Dir
	want api.Errno
} {
	return []struct {
		d    Dir
		want api.Errno
	}{
		{of(-1, 1), api.ErrRange},
		{of(-1), api.ErrRange},
		{of(11, 1, 2), api.ErrRange},
		{Dir{Depth: 11, Slots: all(2048, 5)}, api.ErrRange},
		{of(0, 0), api.ErrRange},
		{of(1, 1, 3001), api.ErrRange},
		{of(1, -1, -1), api.ErrRange},
		{of(2, 4, 4, 0, 0), api.ErrRange},
		{of(0), api.ErrForm},
		{of(1, 7), api.ErrForm},
		{of(0, 7, 7), api.ErrForm},
		{of(2, 7, 7), api.ErrForm},
		{of(1, 7, 7, 7, 7), api.ErrForm},
		{Dir{Depth: 10, Slots: all(1023, 5)}, api.ErrForm},
		{Dir{Depth: 9, Slots: all(1024, 5)}, api.ErrForm},
	}
}

// keys are several keys, the empty one among them.
func keys() []string {
	l := []string{"", "a", "b", "ab", "foobar", "\x00", "\xff\xfe", string(make([]byte, 100))}
	for i := range 500 {
		l = append(l, "k"+strconv.Itoa(i))
	}
	return l
}
