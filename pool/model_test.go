package pool

import (
	"bytes"
	"fmt"
	"maps"
	"math/rand"
	"slices"
	"strings"
	"testing"

	"intarsia/api"
	"intarsia/disk"
	"intarsia/page"
	"intarsia/shadow"
)

// content is what a page has.
type content struct {
	kind int
	body string
}

// kept is a frame of the model; its time is that of its last use.
type kept struct {
	content
	pins, time int
	dirty      bool
}

// model is the chapter's words by a clock of its own, upon a shadow of its own.
type model struct {
	s            *shadow.Shadow
	limit, clock int
	hits, misses int
	frames       map[int]*kept
}

func (m *model) tick() int {
	m.clock++
	return m.clock
}

// victim is the id of the frame that is to be given up, 0 if all are pinned.
func (m *model) victim() int {
	found := 0
	for id, k := range m.frames {
		if k.pins == 0 && (found == 0 || k.time < m.frames[found].time) {
			found = id
		}
	}
	return found
}

func (m *model) write(id int) api.Errno {
	k := m.frames[id]
	if !k.dirty {
		return api.OK
	}
	err := m.s.Write(id, k.kind, []byte(k.body))
	k.dirty = err != api.OK
	return err
}

func (m *model) room() api.Errno {
	if len(m.frames) < m.limit {
		return api.OK
	}
	id := m.victim()
	if id == 0 {
		return api.ErrPins
	}
	err := m.write(id)
	if err == api.OK {
		delete(m.frames, id)
	}
	return err
}

func (m *model) fetch(id int) (*kept, api.Errno) {
	if k := m.frames[id]; k != nil {
		m.hits++
		k.time = m.tick()
		return k, api.OK
	}
	m.misses++
	if err := m.room(); err != api.OK {
		return nil, err
	}
	kind, body, err := m.s.Read(id)
	if err != api.OK {
		return nil, err
	}
	m.frames[id] = &kept{content: content{kind, string(body)}, time: m.tick()}
	return m.frames[id], api.OK
}

func sealErr(c content) api.Errno {
	switch {
	case c.kind < 1 || c.kind > 5:
		return api.ErrKind
	case len(c.body) > 246:
		return api.ErrLong
	}
	return api.OK
}

func (m *model) get(id int) (content, api.Errno) {
	k, err := m.fetch(id)
	if err != api.OK {
		return content{}, err
	}
	return k.content, api.OK
}

func (m *model) set(id int, c content) api.Errno {
	k, err := m.fetch(id)
	if err == api.OK {
		err = sealErr(c)
	}
	if err == api.OK {
		k.content, k.dirty = c, true
	}
	return err
}

func (m *model) alloc(c content) (int, api.Errno) {
	if err := m.room(); err != api.OK {
		return 0, err
	}
	id, err := m.s.Alloc(c.kind, []byte(c.body))
	if err == api.OK {
		m.frames[id] = &kept{content: c, time: m.tick()}
	}
	return id, err
}

func (m *model) giveUp(id int) api.Errno {
	if k := m.frames[id]; k != nil && k.pins > 0 {
		return api.ErrPins
	}
	err := m.s.Free(id)
	if err == api.OK {
		delete(m.frames, id)
	}
	return err
}

func (m *model) pin(id int) api.Errno {
	k, err := m.fetch(id)
	if err == api.OK {
		k.pins++
	}
	return err
}

func (m *model) unpin(id int) api.Errno {
	k := m.frames[id]
	switch {
	case k == nil:
		return api.ErrNone
	case k.pins == 0:
		return api.ErrState
	}
	k.pins--
	return api.OK
}

func (m *model) flush() api.Errno {
	for _, id := range slices.Sorted(maps.Keys(m.frames)) {
		if err := m.write(id); err != api.OK {
			return err
		}
	}
	return api.OK
}

func (m *model) commit() api.Errno {
	if err := m.flush(); err != api.OK {
		return err
	}
	return m.s.Commit()
}

func (m *model) abort() api.Errno {
	clear(m.frames)
	return m.s.Abort()
}

func (m *model) looks() string {
	text := "held"
	for _, id := range slices.Sorted(maps.Keys(m.frames)) {
		text += fmt.Sprint(" ", id, strings.Repeat("*", m.frames[id].pins))
	}
	return text + fmt.Sprintf(", hits %d, misses %d", m.hits, m.misses)
}

// player does the same calls, as chance tells them, upon a pool and a model;
// both have a disk of their own.
type player struct {
	t       *testing.T
	chance  *rand.Rand
	d, twin *disk.Disk
	p       *Pool
	m       *model
	errs    map[string]int // how often a call was answered so
}

func newPlayer(t *testing.T, seed int64, blocks, pages, frames int) *player {
	t.Helper()
	d, _, p := laid(t, blocks, pages, frames)
	twin, s, _ := laid(t, blocks, pages, frames)
	m := &model{s: s, limit: frames, frames: map[int]*kept{}}
	return &player{t, rand.New(rand.NewSource(seed)), d, twin, p, m, map[string]int{}}
}

func (y *player) id() int { return y.chance.Intn(len(y.m.s.IDs())+3) - 1 }

// heldID is mostly one of those that are held.
func (y *player) heldID() int {
	if ids := y.p.Held(); len(ids) > 0 && y.chance.Intn(4) > 0 {
		return ids[y.chance.Intn(len(ids))]
	}
	return y.id()
}

func (y *player) content() content {
	kind, length := 1+y.chance.Intn(5), y.chance.Intn(20)
	switch y.chance.Intn(12) {
	case 0:
		kind = 6 * y.chance.Intn(2)
	case 1:
		length = 246 + y.chance.Intn(2)
	}
	return content{kind, strings.Repeat(string(rune('a'+y.chance.Intn(26))), length)}
}

// step does one call, and tells its name, and the errors of the pool and of the
// model.
func (y *player) step() (string, api.Errno, api.Errno) {
	id, held, c := y.id(), y.heldID(), y.content()
	switch n := y.chance.Intn(40); {
	case n < 10:
		return y.get(id)
	case n < 18:
		return fmt.Sprint("Set ", id), y.p.Set(id, c.kind, []byte(c.body)), y.m.set(id, c)
	case n < 22:
		return y.alloc(c)
	case n < 24:
		return fmt.Sprint("Free ", id), y.p.Free(id), y.m.giveUp(id)
	case n < 27:
		return fmt.Sprint("Pin ", id), y.p.Pin(id), y.m.pin(id)
	case n < 32:
		return fmt.Sprint("Unpin ", held), y.p.Unpin(held), y.m.unpin(held)
	case n < 34:
		return "Flush", y.p.Flush(), y.m.flush()
	case n < 37:
		return "Commit", y.p.Commit(), y.m.commit()
	case n < 38:
		return "Abort", y.p.Abort(), y.m.abort()
	case n < 39:
		return fmt.Sprint("Free ", held), y.p.Free(held), y.m.giveUp(held)
	}
	return fmt.Sprint("SetStart ", id), y.p.Under().SetStart(id), y.m.s.SetStart(id)
}

func (y *player) get(id int) (string, api.Errno, api.Errno) {
	kind, body, err := y.p.Get(id)
	c, want := y.m.get(id)
	if kind != c.kind || string(body) != c.body {
		y.t.Errorf("Get(%d) = %d, %q; want %d, %q", id, kind, body, c.kind, c.body)
	}
	return fmt.Sprint("Get ", id), err, want
}

func (y *player) alloc(c content) (string, api.Errno, api.Errno) {
	got, err := y.p.Alloc(c.kind, []byte(c.body))
	want, wrong := y.m.alloc(c)
	if got != want {
		y.t.Errorf("Alloc = %d; want %d", got, want)
	}
	return "Alloc", err, wrong
}

// check holds the pool, its shadow and its disk against the model's.
func (y *player) check(what string, err, want api.Errno) {
	y.t.Helper()
	checkErr(y.t, what, err, want)
	checkLooks(y.t, y.p, y.m.looks())
	if got, want := shadowLooks(y.p.Under()), shadowLooks(y.m.s); got != want {
		y.t.Errorf("the shadow: %s; want %s", got, want)
	}
	if y.d.Ops() != y.twin.Ops() || y.d.Reads() != y.twin.Reads() {
		y.t.Errorf("%d writes and syncs, %d reads; want %d, %d", y.d.Ops(), y.d.Reads(), y.twin.Ops(), y.twin.Reads())
	}
	if y.t.Failed() {
		y.t.Fatal(what)
	}
	name, _, _ := strings.Cut(what[strings.LastIndex(what, ":")+2:], " ")
	y.errs[fmt.Sprint(name, " ", int(err))]++
}

// checkSameBytes tells whether both disks have the same bytes: so the calls of
// the shadow were the same ones, in the same order.
func (y *player) checkSameBytes(what string) {
	y.t.Helper()
	if !bytes.Equal(image(y.d), image(y.twin)) {
		y.t.Fatalf("%s: the disks have other bytes", what)
	}
}

func shadowLooks(s *shadow.Shadow) string {
	return fmt.Sprint("start ", s.Start(), " dirty ", s.Dirty(), " ids ", s.IDs(), " epoch ", s.Epoch(), " used ", s.Used(), " bad ", s.Bad())
}

// image is a disk's bytes, read off a fork, lest the reads be counted.
func image(d *disk.Disk) []byte {
	own := d.Fork()
	var all []byte
	for n := range own.Blocks() {
		b, _ := own.Read(n)
		all = append(all, b...)
	}
	return all
}

func TestManyCallsAgainstTheModel(t *testing.T) {
	seen := map[string]int{}
	for seed := range 120 {
		blocks, pages, frames := 10+seed%40, 1+seed%5, 1+seed%7
		y := newPlayer(t, int64(seed), blocks, pages, frames)
		for i := range 200 {
			what, err, want := y.step()
			y.check(fmt.Sprintf("seed %d, call %d: %s", seed, i, what), err, want)
		}
		y.checkSameBytes(fmt.Sprint("seed ", seed))
		for name, count := range y.errs {
			seen[name] += count
		}
	}
	checkSeen(t, seen, "Get 0", "Get 8", "Get 10", "Get 14", "Set 0", "Set 5", "Set 8", "Set 9", "Set 10", "Set 14",
		"Alloc 0", "Alloc 5", "Alloc 9", "Alloc 10", "Alloc 14", "Free 0", "Free 2", "Free 8", "Free 14",
		"Pin 0", "Pin 8", "Pin 10", "Pin 14", "Unpin 0", "Unpin 8", "Unpin 15", "Flush 0", "Flush 10", "Commit 0", "Commit 10", "Abort 0")
}

// checkSeen tells whether calls were answered so, a few times each.
func checkSeen(t *testing.T, seen map[string]int, names ...string) {
	t.Helper()
	for _, name := range names {
		if seen[name] < 5 {
			t.Errorf("%s was answered just %d times", name, seen[name])
		}
	}
}

// The power fails at one step of the disk, and it is gone on with the bad
// shadow.
func TestManyCallsAgainstTheModelWithoutPower(t *testing.T) {
	seen := map[string]int{}
	for seed := range 600 {
		y := newPlayer(t, int64(5000+seed), 12+seed%40, 3, 1+seed%5)
		after, done := y.chance.Intn(30), seed%2 == 0
		y.d.Fail(after, done)
		y.twin.Fail(after, done)
		for i := range 80 {
			what, err, want := y.step()
			y.check(fmt.Sprintf("seed %d, call %d: %s", seed, i, what), err, want)
		}
		y.d.Crash([]byte{1, 0, 2, 9, 1})
		y.twin.Crash([]byte{1, 0, 2, 9, 1})
		y.checkSameBytes(fmt.Sprint("seed ", seed))
		for name, count := range y.errs {
			seen[name] += count
		}
	}
	checkSeen(t, seen, "Get 11", "Get 15", "Set 11", "Set 15", "Alloc 11", "Alloc 15", "Commit 11", "Commit 15", "Flush 15", "Abort 15", "Free 15", "Pin 15")
}

// P8.6: as if there were no frames: pages are plain contents, beside those that
// counted last.
type plain struct{ now, last map[int]content }

func (a *plain) commit() { a.last = maps.Clone(a.now) }
func (a *plain) abort()  { a.now = maps.Clone(a.last) }

func laidPlain(pages int) *plain {
	a := &plain{now: map[int]content{}}
	for i := range pages {
		a.now[i+1] = content{page.Bucket, fmt.Sprint(i + 1)}
	}
	a.commit()
	return a
}

// checkPlain holds what is got against what was set last.
func checkPlain(t *testing.T, what string, p *Pool, a *plain) {
	t.Helper()
	for id := -1; id < 16; id++ {
		if c, ok := a.now[id]; ok {
			checkGet(t, p, id, c.kind, c.body)
		} else {
			checkGetErr(t, p, id, api.ErrNone)
		}
	}
	if t.Failed() {
		t.Fatal(what)
	}
}

func TestAsIfThereWereNoFrames(t *testing.T) {
	for _, frames := range []int{1, 2, 3, 5, 8, 64} {
		d, _, p := laid(t, 80, 6, frames)
		a := laidPlain(6)
		chance := rand.New(rand.NewSource(int64(frames)))
		for i := range 600 {
			id, c := 1+chance.Intn(9), content{1 + chance.Intn(5), fmt.Sprint("body ", i)}
			what := playPlain(t, p, a, chance.Intn(12), id, c)
			if chance.Intn(3) == 0 {
				checkPlain(t, fmt.Sprintf("%d frames, call %d, %s", frames, i, what), p, a)
			}
		}
		d.Crash(nil)
		s, err := shadow.Open(d)
		checkErr(t, "Open", err, api.OK)
		a.abort()
		checkPlain(t, "opened again", pooled(t, s, frames), a)
	}
}

// playPlain does one call upon a pool and what is to be got of it.
func playPlain(t *testing.T, p *Pool, a *plain, n, id int, c content) string {
	t.Helper()
	want := api.OK
	if _, ok := a.now[id]; !ok {
		want = api.ErrNone
	}
	switch {
	case n < 6:
		checkErr(t, "Set", p.Set(id, c.kind, []byte(c.body)), want)
		if want == api.OK {
			a.now[id] = c
		}
		return "Set"
	case n < 8 && len(a.now) < 12:
		id, err := p.Alloc(c.kind, []byte(c.body))
		checkErr(t, "Alloc", err, api.OK)
		a.now[id] = c
		return "Alloc"
	case n < 9:
		checkErr(t, "Free", p.Free(id), want)
		delete(a.now, id)
		return "Free"
	case n < 10:
		checkErr(t, "Flush", p.Flush(), api.OK)
		return "Flush"
	case n < 11:
		checkErr(t, "Commit", p.Commit(), api.OK)
		a.commit()
		return "Commit"
	}
	checkErr(t, "Abort", p.Abort(), api.OK)
	a.abort()
	return "Abort"
}

// A page that is pinned is held, whatever else is got, set, made and given up.
func TestAPinnedPageIsHeld(t *testing.T) {
	d, _, p := laid(t, 80, 9, 4)
	pin(t, p, 2, 5)
	set(t, p, 5, "five")
	chance := rand.New(rand.NewSource(1))
	for i := range 500 {
		id := 1 + chance.Intn(12)
		switch chance.Intn(5) {
		case 0:
			p.Get(id)
		case 1:
			p.Set(id, page.Bucket, fmt.Append(nil, i))
		case 2:
			p.Alloc(page.Bucket, nil)
		case 3:
			p.Free(id)
		case 4:
			checkErr(t, "Commit", p.Commit(), api.OK)
		}
		held := p.Held()
		if !slices.Contains(held, 2) || !slices.Contains(held, 5) || p.Pins(2) != 1 || p.Pins(5) != 1 || len(held) > 4 {
			t.Fatalf("call %d: held %v", i, held)
		}
	}
	checkSteps(t, d, 0, 0, func() { p.Get(2); p.Get(5) })
}

// The power fails at each step of a Commit through the pool: what is found is
// what counted ahead of it, or what it makes, whole.
func TestThePowerFailsAtEachStepOfACommit(t *testing.T) {
	ends := map[string]int{}
	for after := range 12 {
		for fate := range 27 {
			d, _, p := laid(t, 40, 4, 2)
			d.Fail(after, fate%2 == 0)
			err := changeAll(p)
			d.Crash([]byte{byte(fate % 3), byte(fate / 3 % 3), byte(fate / 9), 1, 0, 2, 200})
			s, wrong := shadow.Open(d)
			checkErr(t, "Open", wrong, api.OK)
			got := allOf(t, s)
			if got != "1 2 3 4" && got != "one two 3 four 5" || err == api.OK && got == "1 2 3 4" {
				t.Errorf("after %d, fate %d: error %d, pages %s", after, fate, int(err), got)
			}
			ends[got]++
		}
	}
	if len(ends) != 2 {
		t.Errorf("ends %v", ends)
	}
}

// changeAll changes pages by as few frames as there are, and lets them count.
func changeAll(p *Pool) api.Errno {
	for _, set := range []struct {
		id   int
		body string
	}{{1, "one"}, {4, "four"}, {2, "two"}} {
		if err := p.Set(set.id, page.Bucket, []byte(set.body)); err != api.OK {
			return err
		}
	}
	if _, err := p.Alloc(page.Bucket, []byte("5")); err != api.OK {
		return err
	}
	return p.Commit()
}

// allOf is all pages' bodies as one text.
func allOf(t *testing.T, s *shadow.Shadow) string {
	t.Helper()
	p := pooled(t, s, 1)
	var list []string
	for _, id := range s.IDs() {
		_, body, err := p.Get(id)
		checkErr(t, "Get", err, api.OK)
		list = append(list, string(body))
	}
	return strings.Join(list, " ")
}
