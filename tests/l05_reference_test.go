package tests

import (
	"slices"
	"testing"

	"loop.example/g01094/impl"
)

// The functions of this file follow the definitions of chapter 5: for short words by looking at all
// traces and at all ways to divide each of their words, and for long ones by pair projections and by
// the letters that exchanges can bring to the beginning.

// divisions has all traces of an alphabet with at most so many letters, shorter ones before longer
// ones and those with the same length in ascending order of their normal forms, and all quotients
// among them. Traces are given by their numbers in it, and -1 stands for none.
type divisions struct {
	x       impl.Alphabet
	classes [][][]int64    // the words of each trace
	number  map[string]int // the trace of each word, under its text
	left    [][]int        // left[v][u] is the left quotient of v by u
	right   [][]int        // right[v][u] is the right quotient of v by u
}

// none returns a list of so many times no trace.
func none(n int) []int { return slices.Repeat([]int{-1}, n) }

func divisionsOf(t *testing.T, x impl.Alphabet, length int) divisions {
	t.Helper()
	d := divisions{x: x, number: map[string]int{}}
	for _, w := range wordsUpTo(int(x.Letters), length) {
		if _, isKnown := d.number[refWordText(w)]; isKnown {
			continue
		}
		class := refClass(x, w, 1<<20)
		for _, v := range class {
			d.number[refWordText(v)] = len(d.classes)
		}
		d.classes = append(d.classes, class)
	}
	for _, class := range d.classes {
		left, right := none(len(d.classes)), none(len(d.classes))
		for _, w := range class {
			for i := range len(w) + 1 {
				p, s := d.number[refWordText(w[:i])], d.number[refWordText(w[i:])]
				if left[p] >= 0 && left[p] != s || right[s] >= 0 && right[s] != p {
					t.Fatalf("the quotients of %v are not unique", w)
				}
				left[p], right[s] = s, p
			}
		}
		d.left, d.right = append(d.left, left), append(d.right, right)
	}
	return d
}

// normal returns the normal form of a trace, nil for none.
func (d divisions) normal(v int) []int64 {
	if v < 0 {
		return nil
	}
	return d.classes[v][0]
}

// length returns the number of letters of a trace.
func (d divisions) length(v int) int { return len(d.normal(v)) }

func (d divisions) isPrefix(u, v int) bool { return d.left[v][u] >= 0 }

// where returns all traces for which something holds.
func (d divisions) where(holds func(v int) bool) []int {
	var list []int
	for v := range d.classes {
		if holds(v) {
			list = append(list, v)
		}
	}
	return list
}

// greatest returns the trace of a list that all of it are prefixes of.
func (d divisions) greatest(list []int) int {
	return d.only(list, func(v int) bool {
		return !slices.ContainsFunc(list, func(u int) bool { return !d.isPrefix(u, v) })
	})
}

// least returns the trace of a list that is a prefix of all of it.
func (d divisions) least(list []int) int {
	return d.only(list, func(u int) bool {
		return !slices.ContainsFunc(list, func(v int) bool { return !d.isPrefix(u, v) })
	})
}

// only returns the one trace of a list for which something holds.
func (d divisions) only(list []int, holds func(v int) bool) int {
	found := slices.DeleteFunc(slices.Clone(list), func(v int) bool { return !holds(v) })
	if len(found) != 1 {
		return -1
	}
	return found[0]
}

func (d divisions) product(u, v int) int {
	return d.number[refWordText(slices.Concat(d.normal(u), d.normal(v)))]
}

func (d divisions) meet(u, v int) int {
	return d.greatest(d.where(func(p int) bool { return d.isPrefix(p, u) && d.isPrefix(p, v) }))
}

// continuation returns the least trace with the traces of a list as prefixes. It has no more letters
// than they have together, which must not be more than those of the longest trace.
func (d divisions) continuation(list ...int) int {
	return d.least(d.where(func(w int) bool {
		return !slices.ContainsFunc(list, func(u int) bool { return !d.isPrefix(u, w) })
	}))
}

// prefixIn returns the greatest prefix with letters of a set only.
func (d divisions) prefixIn(v int, mask int64) int {
	return d.greatest(d.where(func(p int) bool {
		return d.isPrefix(p, v) && len(refProjection(d.normal(p), mask)) == d.length(p)
	}))
}

// factorBefore returns the first trace p such that v is the product of p, u and some trace.
func (d divisions) factorBefore(u, v int) int {
	fits := func(p int) bool { return d.isPrefix(p, v) && d.isPrefix(u, d.left[v][p]) }
	return append(d.where(fits), -1)[0]
}

// levi returns all lists of four traces p, q, r and s for the products of u and v, and of y and z.
func (d divisions) levi(u, v, y, z int) [][4]int {
	var list [][4]int
	for _, p := range d.where(func(p int) bool { return d.isPrefix(p, u) && d.isPrefix(p, y) }) {
		q, r := d.left[u][p], d.left[y][p]
		s := d.left[v][r]
		if s >= 0 && s == d.left[z][q] && refAreIndependent(d.x, d.normal(q), d.normal(r)) {
			list = append(list, [4]int{p, q, r, s})
		}
	}
	return list
}

func refAreIndependent(x impl.Alphabet, u, v []int64) bool {
	for _, a := range u {
		for _, b := range v {
			if related(x.Depends, int(a), int(b)) {
				return false
			}
		}
	}
	return true
}

// isBeginning reports whether v begins with u.
func isBeginning(u, v []int64) bool { return len(u) <= len(v) && slices.Equal(u, v[:len(u)]) }

// projectsTo reports whether something holds for each pair projection of u and that of v.
func projectsTo(x impl.Alphabet, u, v []int64, holds func(p, q []int64) bool) bool {
	other := refPairProjections(x, v)
	for i, p := range refPairProjections(x, u) {
		if !holds(p, other[i]) {
			return false
		}
	}
	return true
}

// areProjectedPrefixes reports whether each pair projection of v begins with that of u: then the
// letters of u are the first ones of v with each letter.
func areProjectedPrefixes(x impl.Alphabet, u, v []int64) bool {
	return projectsTo(x, u, v, isBeginning)
}

// areProjectedCompatible reports whether of both pair projections always one begins with the other.
func areProjectedCompatible(x impl.Alphabet, u, v []int64) bool {
	return projectsTo(x, u, v, func(p, q []int64) bool { return isBeginning(p, q) || isBeginning(q, p) })
}

// lessFirst returns v without the first letters of each kind, as many as u has of it, or all that
// there are.
func lessFirst(u, v []int64) []int64 {
	left := slices.Clone(v)
	for _, a := range u {
		if i := slices.Index(left, a); i >= 0 {
			left = slices.Delete(left, i, i+1)
		}
	}
	return left
}

// startLetters returns the letters that exchanges can bring to the beginning of w.
func startLetters(x impl.Alphabet, w []int64) []int64 {
	var letters []int64
	for _, i := range refStarts(x, w) {
		letters = append(letters, w[i])
	}
	return letters
}

// commonStart takes letters that both words can begin with away from both, again and again, and
// returns them.
func commonStart(x impl.Alphabet, u, v []int64) []int64 {
	var common []int64
	for {
		starts := startLetters(x, v)
		i := slices.IndexFunc(startLetters(x, u), func(a int64) bool { return slices.Contains(starts, a) })
		if i < 0 {
			return refExtreme(x, common, 1)
		}
		a := startLetters(x, u)[i]
		common = append(common, a)
		u, v = lessFirst([]int64{a}, u), lessFirst([]int64{a}, v)
	}
}

// startIn takes letters of a set that w can begin with away from it, again and again, and returns
// them.
func startIn(x impl.Alphabet, w []int64, mask int64) []int64 {
	var start []int64
	for {
		inside := refProjection(startLetters(x, w), mask)
		if len(inside) == 0 {
			return refExtreme(x, start, 1)
		}
		start = append(start, inside[0])
		w = lessFirst(inside[:1], w)
	}
}

// leastBefore looks at all prefixes of the trace of v, and returns the first normal form of those
// behind which it goes on with u, and whether there is one.
func leastBefore(x impl.Alphabet, u, v []int64) ([]int64, bool) {
	normal := refExtreme(x, v, 1)
	var best []int64
	found := false
	for _, s := range grownDownsets(refOrder(x, normal)) {
		if !areProjectedPrefixes(x, u, lettersAt(normal, 1<<len(v)-1-s)) {
			continue
		}
		p := refExtreme(x, lettersAt(normal, s), 1)
		if !found || len(p) < len(best) || len(p) == len(best) && slices.Compare(p, best) < 0 {
			best, found = p, true
		}
	}
	return best, found
}
