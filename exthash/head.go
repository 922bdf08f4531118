package exthash

import (
	"bytes"
	"cmp"
	"slices"

	"intarsia/api"
	"intarsia/dir"
	"intarsia/num"
	"intarsia/page"
)

const (
	depthWidth = 1
	countWidth = 3
	pagesWidth = 1
	idWidth    = 2
)

// state is what a table's head and its directory's pages tell.
type state struct {
	count int
	dir   dir.Dir
	pages []int    // the directory's
	laid  [][]byte // what stands there
}

// load reads the head and the directory.
func (t *Table) load() state {
	s, depth := t.loadHead()
	for _, id := range s.pages {
		s.laid = append(s.laid, t.get(id, page.Dir))
	}
	slots := slices.Concat(s.laid...)
	d, err := dir.Get(depth, slots)
	sound(err == api.OK && slices.EqualFunc(pieces(slots), s.laid, bytes.Equal))
	s.dir = d
	t.count, t.depth = s.count, depth
	return s
}

// loadHead reads the head alone. Whether it is one is told ahead of what its
// pages are.
func (t *Table) loadHead() (s state, depth int) {
	left := num.New(t.get(t.head, page.Head))
	depth, s.count = left.Num(depthWidth), left.Num(countWidth)
	for range left.Num(pagesWidth) {
		s.pages = append(s.pages, left.Num(idWidth))
	}
	sound(left.Done() == api.OK && depth <= api.MaxDepth && len(s.pages) == pagesAt(depth))
	sound(differ(s.pages, cmp.Compare[int]))
	return s, depth
}

// counted tells a count that has room in the head. That of a head which is
// wrong may have none.
func counted(n int) int {
	_, err := num.Put(n, countWidth)
	sound(err == api.OK)
	return n
}

// pagesAt tells how many pages a directory has, by any one of its depth.
func pagesAt(depth int) int {
	slots, _ := page.Words(make([]int, 1<<depth))
	return len(pieces(slots))
}

func pieces(slots []byte) [][]byte { return page.Split(slots, page.Room) }

// get reads a page that is to be of a kind.
func (t *Table) get(id, kind int) []byte {
	has, body, err := t.under.Get(id)
	must(err)
	sound(has == kind)
	return body
}

// save lays the directory, where it is another one than stands there, and the
// head.
func (t *Table) save(s state) {
	slots, _ := dir.Put(s.dir)
	want := pieces(slots)
	for i, piece := range want {
		if i >= len(s.pages) {
			s.pages = append(s.pages, t.alloc(page.Dir, piece))
		} else if !bytes.Equal(piece, s.laid[i]) {
			must(t.under.Set(s.pages[i], page.Dir, piece))
		}
	}
	t.free(s.pages[len(want):])
	s.pages = s.pages[:len(want)]
	t.saveHead(s)
	t.count, t.depth = s.count, s.dir.Depth
}

// saveHead lays the head, which has no page as long as the table is being made.
func (t *Table) saveHead(s state) {
	body := slices.Concat(wide(s.dir.Depth, depthWidth), wide(s.count, countWidth), wide(len(s.pages), pagesWidth))
	for _, id := range s.pages {
		body = append(body, wide(id, idWidth)...)
	}
	if t.head == 0 {
		t.head = t.alloc(page.Head, body)
		return
	}
	must(t.under.Set(t.head, page.Head, body))
}

// wide lays a number of which it is known that it has room in width.
func wide(n, width int) []byte {
	b, _ := num.Put(n, width)
	return b
}

func (t *Table) alloc(kind int, body []byte) int {
	id, err := t.under.Alloc(kind, body)
	must(err)
	return id
}

func (t *Table) free(ids []int) {
	for _, id := range ids {
		must(t.under.Free(id))
	}
}
