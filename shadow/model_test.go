package shadow

import (
	"fmt"
	"maps"
	"math/rand"
	"slices"
	"strings"
	"testing"

	"intarsia/api"
	"intarsia/disk"
	"intarsia/page"
)

// model is the chapter's words as plain maps, without a disk: what each call is
// to answer, and where each page is to stand.
type model struct {
	blocks int
	epoch  int
	start  int
	dirty  bool
	pages  map[int]content
	at     map[int]int  // a page's block
	fresh  map[int]bool // blocks
	used   map[int]bool // blocks, as of the last Commit
	last   *model
}

func newModel(blocks int) *model {
	m := &model{blocks: blocks, pages: map[int]content{}, at: map[int]int{}, fresh: map[int]bool{}}
	m.settle()
	return m
}

func (m *model) copied() *model {
	own := *m
	own.pages, own.at = maps.Clone(m.pages), maps.Clone(m.at)
	own.fresh, own.used = maps.Clone(m.fresh), maps.Clone(m.used)
	return &own
}

func (m *model) free() []int {
	var list []int
	for n := 2; n < m.blocks; n++ {
		if !m.fresh[n] && !m.used[n] {
			list = append(list, n)
		}
	}
	return list
}

func (m *model) extra() int {
	next := 0
	for id := range m.at {
		next = max(next, id)
	}
	return (next+122)/123 + ((m.blocks+7)/8+245)/246
}

// settle lets all count: the table and the map take the lowest free blocks.
func (m *model) settle() {
	used := map[int]bool{0: true, 1: true}
	for _, n := range m.free()[:m.extra()] {
		used[n] = true
	}
	for _, n := range m.at {
		used[n] = true
	}
	m.used, m.fresh, m.dirty = used, map[int]bool{}, false
	m.last = m.copied()
}

func (m *model) place(id int, c content) api.Errno {
	list := m.free()
	if len(list) == 0 {
		return api.ErrFull
	}
	m.at[id], m.pages[id], m.fresh[list[0]], m.dirty = list[0], c, true, true
	return api.OK
}

func sealErr(c content) api.Errno {
	switch {
	case c.kind < 1 || c.kind > 5:
		return api.ErrKind
	case len(c.body) > 246:
		return api.ErrLong
	}
	return api.OK
}

func (m *model) alloc(c content) (int, api.Errno) {
	if err := sealErr(c); err != api.OK {
		return 0, err
	}
	id := 1
	for m.at[id] != 0 {
		id++
	}
	if err := m.place(id, c); err != api.OK {
		return 0, err
	}
	return id, api.OK
}

func (m *model) write(id int, c content) api.Errno {
	if m.at[id] == 0 {
		return api.ErrNone
	}
	if err := sealErr(c); err != api.OK {
		return err
	}
	if m.fresh[m.at[id]] {
		m.pages[id] = c
		return api.OK
	}
	return m.place(id, c)
}

func (m *model) giveUp(id int) api.Errno {
	switch {
	case m.at[id] == 0:
		return api.ErrNone
	case m.start == id:
		return api.ErrArg
	}
	delete(m.fresh, m.at[id])
	delete(m.at, id)
	delete(m.pages, id)
	m.dirty = true
	return api.OK
}

func (m *model) setStart(id int) api.Errno {
	if id != 0 && m.at[id] == 0 {
		return api.ErrNone
	}
	m.dirty = m.dirty || m.start != id
	m.start = id
	return api.OK
}

func (m *model) commit() api.Errno {
	if !m.dirty {
		return api.OK
	}
	if len(m.free()) < m.extra() {
		return api.ErrFull
	}
	m.epoch++
	m.settle()
	return api.OK
}

func (m *model) abort() {
	last := m.last
	*m = *last.copied()
	m.last = last
}

func (m *model) looks(bad bool) string {
	ids := slices.Sorted(maps.Keys(m.at))
	return fmt.Sprint("start ", m.start, " dirty ", m.dirty, " ids ", ids, " epoch ", m.epoch, " used ", len(m.used)+len(m.fresh), " bad ", bad)
}

func (m *model) text() string { return counting{m.pages, m.start, m.epoch}.text() }

// player does the same calls, as chance tells them, upon a shadow and a model.
type player struct {
	t      *testing.T
	chance *rand.Rand
	d      *disk.Disk
	s      *Shadow
	m      *model
}

func (p *player) id() int { return p.chance.Intn(len(p.m.at)+3) - 1 }

func (p *player) content() content {
	kind, length := 1+p.chance.Intn(5), p.chance.Intn(247)
	switch p.chance.Intn(12) {
	case 0:
		kind = 6 * p.chance.Intn(2)
	case 1:
		length = 246 + p.chance.Intn(2)
	}
	return content{kind, strings.Repeat(string(rune('a'+p.chance.Intn(26))), length)}
}

// step does one call, and tells its name, and the errors of the shadow and of
// the model.
func (p *player) step() (string, api.Errno, api.Errno) {
	id, c := p.id(), p.content()
	switch n := p.chance.Intn(20); {
	case n < 6:
		want, wrong := p.m.alloc(c)
		got, err := p.s.Alloc(c.kind, []byte(c.body))
		if err == api.OK && got != want {
			p.t.Errorf("Alloc = %d; want %d", got, want)
		}
		return "Alloc", err, wrong
	case n < 11:
		return fmt.Sprint("Write ", id), p.s.Write(id, c.kind, []byte(c.body)), p.m.write(id, c)
	case n < 14:
		return fmt.Sprint("Free ", id), p.s.Free(id), p.m.giveUp(id)
	case n < 16:
		return fmt.Sprint("SetStart ", id), p.s.SetStart(id), p.m.setStart(id)
	case n < 19:
		return "Commit", p.s.Commit(), p.m.commit()
	}
	p.m.abort()
	return "Abort", p.s.Abort(), api.OK
}

// check holds the shadow, and the pages' blocks, against the model.
func (p *player) check(what string) {
	p.t.Helper()
	checkLooks(p.t, p.s, p.m.looks(false))
	for id, c := range p.m.pages {
		checkRead(p.t, p.s, id, c.kind, c.body)
		checkPage(p.t, p.d, p.m.at[id], c.kind, id, []byte(c.body))
	}
	if p.t.Failed() {
		p.t.Fatal(what)
	}
}

func newPlayer(t *testing.T, seed int64, blocks int) *player {
	d, s := formatted(t, blocks)
	return &player{t, rand.New(rand.NewSource(seed)), d, s, newModel(blocks)}
}

func TestManyCallsAgainstTheModel(t *testing.T) {
	full := 0
	for seed := range 60 {
		p := newPlayer(t, int64(seed), 4+seed%25)
		for i := range 150 {
			what, err, want := p.step()
			if err != want {
				t.Fatalf("seed %d, call %d, %s: error %d; want %d", seed, i, what, int(err), int(want))
			}
			if err == api.ErrFull {
				full++
			}
			p.check(fmt.Sprintf("seed %d, call %d, %s", seed, i, what))
			if !p.s.Dirty() {
				checkBlocks(t, p.d)
				checkLooks(t, opened(t, p.d), looks(p.s))
			}
		}
	}
	if full < 100 {
		t.Errorf("ErrFull came just %d times", full)
	}
}

// The power fails again and again; what is found is what the model had behind
// the last Commit, or what the one under way makes of it.
func TestManyFailuresAgainstTheModel(t *testing.T) {
	ends := map[bool]int{}
	for seed := range 60 {
		p := newPlayer(t, int64(1000+seed), 8+seed%25)
		for i := range 150 {
			if i%5 == 0 {
				p.d.Fail(p.chance.Intn(12), p.chance.Intn(2) == 0)
			}
			ahead := p.m.copied()
			what, err, want := p.step()
			what = fmt.Sprintf("seed %d, call %d, %s", seed, i, what)
			if err != api.ErrDown {
				checkErr(t, what, err, want)
				continue
			}
			checkLooks(t, p.s, ahead.looks(true))
			p.comesBack(what, ahead)
			ends[p.m.epoch != ahead.epoch]++
			p.check(what)
		}
	}
	if ends[true] < 20 || ends[false] < 100 {
		t.Errorf("what was under way counted how often: %v", ends)
	}
}

// comesBack lets the power come again, and the model have what is found, if it
// may be.
func (p *player) comesBack(what string, ahead *model) {
	p.t.Helper()
	fate := make([]byte, p.chance.Intn(20))
	p.chance.Read(fate)
	p.d.Crash(fate)
	p.s = opened(p.t, p.d)
	checkBlocks(p.t, p.d)
	behind := p.m
	behind.abort()
	p.m = ahead
	p.m.abort()
	if countingOf(p.t, p.s).text() != p.m.text() {
		p.m = behind
	}
	if got := countingOf(p.t, p.s).text(); got != p.m.text() {
		p.t.Fatalf("%s, fate %v: %s; want %s, or %s", what, fate, got, ahead.text(), behind.text())
	}
}

// The same pages as many times as there are epochs take no more blocks.
func TestNoBlockIsLost(t *testing.T) {
	d, s := formatted(t, 9)
	allocs(t, s, 1, 2)
	commit(t, s)
	for i := range 200 {
		write(t, s, 1+i%2, fmt.Sprint(i))
		if i%3 == 0 {
			abort(t, s)
			continue
		}
		commit(t, s)
		checkUsed(t, s, 6)
		if i%7 == 0 {
			s = opened(t, d)
		}
	}
	checkRead(t, s, 2, page.Bucket, "199")
	checkRead(t, s, 1, page.Bucket, "196")
	if used := checkBlocks(t, d); used != 6 {
		t.Errorf("%d blocks are used", used)
	}
}
