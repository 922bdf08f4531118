package exthash

import (
	"cmp"
	"slices"

	"intarsia/api"
	"intarsia/bucket"
	"intarsia/dir"
	"intarsia/mix"
	"intarsia/page"
)

// link is a page of a chain. A chain is a list of them; it has at least one,
// and no two of its pages would fit into one.
type link struct {
	id int
	bucket.Bucket
}

// chain reads the chain that begins with a page.
func (t *Table) chain(s state, id int) []link {
	var c []link
	for id != 0 {
		l := t.link(s, id)
		sound(!slices.ContainsFunc(c, func(m link) bool { return m.id == id || m.Depth != l.Depth }))
		c = append(c, l)
		id = l.Next
	}
	return c
}

func (t *Table) link(s state, id int) link {
	b, err := bucket.Get(t.get(id, page.Bucket))
	sound(err == api.OK && b.Depth <= s.dir.Depth)
	return link{id: id, Bucket: b}
}

func idsOf(c []link) []int {
	var ids []int
	for _, l := range c {
		ids = append(ids, l.id)
	}
	return ids
}

func pairsOf(c []link) []api.Pair {
	var pairs []api.Pair
	for _, l := range c {
		pairs = append(pairs, l.Pairs...)
	}
	return pairs
}

// where tells the place of the page that has a pair, -1 if none has.
func where(c []link, p api.Pair) int {
	return slices.IndexFunc(c, func(l link) bool { return bucket.Has(l.Bucket, p) })
}

// roomFor asks for a page that has room for more pairs.
func roomFor(more ...api.Pair) func(l link) bool {
	return func(l link) bool { return fit(slices.Concat(l.Pairs, more)) }
}

func fit(pairs []api.Pair) bool {
	return bucket.Size(bucket.Bucket{Pairs: pairs}) <= page.Room
}

// parting tells whether a bit from a depth on parts pairs.
func parting(pairs []api.Pair, depth int) bool {
	if depth == api.MaxDepth {
		return false
	}
	return slices.ContainsFunc(pairs, func(p api.Pair) bool { return top(p) != top(pairs[0]) })
}

func top(p api.Pair) int { return mix.Top(mix.Of(p.Key), api.MaxDepth) }

// set lays a page that is there already.
func (t *Table) set(l link) { must(t.under.Set(l.id, page.Bucket, body(l.Bucket))) }

// body lays a bucket of which it is known that it may be.
func body(b bucket.Bucket) []byte {
	x, _ := bucket.Put(b)
	return x
}

// extend puts a further page behind a chain.
func (t *Table) extend(c []link, p api.Pair) {
	last := c[len(c)-1]
	last.Next = t.alloc(page.Bucket, body(bucket.Bucket{Depth: last.Depth, Pairs: []api.Pair{p}}))
	t.set(last)
}

// share is the pairs of a chain that is to be.
type share struct {
	prefix int
	depth  int
	pairs  []api.Pair
}

// part lays a chain's pairs, and a new one, as several chains, and tells the
// directory with them.
func (t *Table) part(d dir.Dir, c []link, all []api.Pair, place int) dir.Dir {
	depth := c[0].Depth
	whole := share{prefix: place >> (d.Depth - depth), depth: depth, pairs: all}
	first, spare := 0, idsOf(c)
	for _, s := range parted(whole) {
		for d.Depth < s.depth {
			d, _ = dir.Double(d)
		}
		first, spare = t.lay(s.depth, s.pairs, spare)
		d = dir.Set(d, s.prefix, s.depth, first)
	}
	t.free(spare)
	return d
}

// parted tells the shares of one that is parted bit by bit, until each fits
// into a page, or no bit parts it.
func parted(s share) []share {
	if fit(s.pairs) || !parting(s.pairs, s.depth) {
		return []share{s}
	}
	zero, one := bucket.Split(s.pairs, s.depth)
	return slices.Concat(
		parted(share{prefix: 2 * s.prefix, depth: s.depth + 1, pairs: zero}),
		parted(share{prefix: 2*s.prefix + 1, depth: s.depth + 1, pairs: one}))
}

// lay lays pairs as a chain, upon spare pages as far as there are some, and
// tells its first page, and the spare ones that are left. The last page comes
// first, as each one tells the page behind it.
func (t *Table) lay(depth int, pairs []api.Pair, spare []int) (int, []int) {
	next := 0
	for _, l := range slices.Backward(packed(pairs)) {
		l.Depth, l.Next = depth, next
		if len(spare) == 0 {
			next = t.alloc(page.Bucket, body(l.Bucket))
			continue
		}
		l.id, spare = spare[0], spare[1:]
		t.set(l)
		next = l.id
	}
	return next, spare
}

// packed puts each pair into the first page that has room for it.
func packed(pairs []api.Pair) []link {
	c := make([]link, 1)
	for _, p := range pairs {
		at := slices.IndexFunc(c, roomFor(p))
		if at < 0 {
			at = len(c)
			c = append(c, link{})
		}
		c[at].Bucket, _ = bucket.Add(c[at].Bucket, p)
	}
	return c
}

// kin tells a chain's pages, and those of all chains that are to be made one
// with it, and the depth of that one. Two that belong together are made one if
// each has one page and they fit into one; and also if one of them has no
// pairs, so that nothing is left of pairs that are gone.
func (t *Table) kin(s state, c []link, place int) (all []link, depth int) {
	all, depth = c, c[0].Depth
	for depth > 0 {
		other := place ^ 1<<(s.dir.Depth-depth)
		more, ok := t.together(s, all, s.dir.Slots[other], depth)
		if !ok {
			break
		}
		all = slices.Concat(all, more)
		sound(differ(idsOf(all), cmp.Compare[int]))
		depth--
	}
	return all, depth
}

// together reads the chain that begins with a page, if it is to be made one
// with c. It reads no more than its first page of one that is not.
func (t *Table) together(s state, c []link, id, depth int) ([]link, bool) {
	l, pairs := t.link(s, id), pairsOf(c)
	if l.Depth != depth || l.Next != 0 && len(pairs) > 0 {
		return nil, false
	}
	if len(l.Pairs) > 0 && !fit(slices.Concat(pairs, l.Pairs)) {
		return nil, false
	}
	return t.chain(s, id), true
}

// unite lays the pairs of several chains as one, and tells the directory with
// it.
func (t *Table) unite(d dir.Dir, all []link, place, depth int) dir.Dir {
	first, spare := t.lay(depth, pairsOf(all), idsOf(all))
	t.free(spare)
	return dir.Set(d, place>>(d.Depth-depth), depth, first)
}

// shrink lays the page that has lost a pair, together with another one of the
// chain, if both fit into one. That one has grown: it fits with no third.
func (t *Table) shrink(c []link, at int) {
	fits := roomFor(c[at].Pairs...)
	for i := range c {
		if i != at && fits(c[i]) {
			t.join(c, min(i, at), max(i, at))
			return
		}
	}
	t.set(c[at])
}

// join lays two pages of a chain as one. The later one goes: the slots tell
// the first page's id.
func (t *Table) join(c []link, to, from int) {
	for _, p := range c[from].Pairs {
		c[to].Bucket, _ = bucket.Add(c[to].Bucket, p)
	}
	c[from-1].Next = c[from].Next
	t.set(c[to])
	t.set(c[from-1]) // which may be the same
	t.free([]int{c[from].id})
}

// halved halves a directory as far as it can be.
func halved(d dir.Dir) dir.Dir {
	for ok := true; ok; {
		d, ok = dir.Halve(d)
	}
	return d
}
