package bucket

import (
	"bytes"
	"slices"
	"strings"
	"testing"

	"intarsia/api"
)

func pair(key, val string) api.Pair { return api.Pair{Key: key, Val: val} }

// pairs tells pairs of a list of keys and vals, one of each in turn.
func pairs(l ...string) []api.Pair {
	var found []api.Pair
	for i := 0; i+1 < len(l); i += 2 {
		found = append(found, pair(l[i], l[i+1]))
	}
	return found
}

func of(l ...string) Bucket { return Bucket{Depth: 3, Next: 7, Pairs: pairs(l...)} }

func long(n int) string { return strings.Repeat("x", n) }

// sized tells a bucket in order whose body has just n bytes (from 110 on).
func sized(n int) Bucket {
	return Bucket{Pairs: pairs("a", long(100), "b", long(n-110))}
}

// ahead is the document's word, byte by byte.
func ahead(a, b api.Pair) bool {
	if a.Key != b.Key {
		return bytes.Compare([]byte(a.Key), []byte(b.Key)) < 0
	}
	return bytes.Compare([]byte(a.Val), []byte(b.Val)) < 0
}

// bodyOf lays a body as the document's section 'Words' says it, also of a
// bucket that may not be, and with a count of pairs that may be wrong.
func bodyOf(b Bucket, count int) []byte {
	body := []byte{byte(b.Depth), byte(b.Next >> 8), byte(b.Next), byte(count)}
	for _, p := range b.Pairs {
		body = append(body, byte(len(p.Key)))
		body = append(body, p.Key...)
		body = append(body, byte(len(p.Val)))
		body = append(body, p.Val...)
	}
	return body
}

func clone(b Bucket) Bucket {
	b.Pairs = slices.Clone(b.Pairs)
	return b
}

// equal doesn't lean on Same.
func equal(a, b Bucket) bool {
	return a.Depth == b.Depth && a.Next == b.Next && slices.Equal(a.Pairs, b.Pairs)
}

func wantBucket(t *testing.T, what string, got, want Bucket) {
	t.Helper()
	if !equal(got, want) {
		t.Errorf("%s: %v, want %v", what, got, want)
	}
}

// wantNoBody: with an error no body.
func wantNoBody(t *testing.T, what string, b Bucket, want api.Errno) {
	t.Helper()
	if got := Check(b); got != want {
		t.Errorf("%s: Check is %v, want %v", what, got, want)
	}
	if x, err := Put(b); x != nil || err != want {
		t.Errorf("%s: Put is %x, %v, want %v", what, x, err, want)
	}
}
