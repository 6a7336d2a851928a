package impl

import (
	"cmp"
	"math/bits"
	"slices"
)

// The error codes of all chapters.
const (
	ErrNone = iota
	ErrInvalid
	ErrRange
	ErrLimit
	ErrNotFound
	ErrState
	ErrSyntax
)

// The limits of chapter 1.
const (
	MaxSet    = 24
	MaxFamily = 4096
)

// set is a set of numbers from 0..MaxSet - 1, given by its mask.
type set int64

// firstNumbers returns the set of the numbers 0..n - 1, for n in 0..MaxSet.
func firstNumbers(n int) set { return 1<<n - 1 }

// has reports whether k, in 0..MaxSet - 1, is a member.
func (s set) has(k int64) bool { return s>>k&1 == 1 }

// with returns the set with k, in 0..MaxSet - 1, as a member besides.
func (s set) with(k int64) set { return s | 1<<k }

// minus returns the members that are not in t.
func (s set) minus(t set) set { return s &^ t }

// isWithin reports whether all members are in t.
func (s set) isWithin(t set) bool { return s.minus(t) == 0 }

// size returns the number of members.
func (s set) size() int { return bits.OnesCount64(uint64(s)) }

// least returns the least member of a set that is not empty.
func (s set) least() int64 { return int64(bits.TrailingZeros64(uint64(s))) }

// members returns the members in ascending order.
func (s set) members() []int64 {
	list := make([]int64, 0, s.size())
	for rest := s; rest != 0; rest &= rest - 1 {
		list = append(list, rest.least())
	}
	return list
}

// masksOf returns the masks of sets.
func masksOf(sets []set) []int64 {
	masks := make([]int64, len(sets))
	for i, s := range sets {
		masks[i] = int64(s)
	}
	return masks
}

// relation holds for each element the set of all elements to which it is related.
type relation []set

// relationOf returns the relation that a list is, and whether it is one.
func relationOf(list []int64) (relation, bool) {
	n := int64(len(list))
	if n > MaxSet {
		return nil, false
	}
	r := make(relation, n)
	for i, mask := range list {
		if !IsMask(mask, n) {
			return nil, false
		}
		r[i] = set(mask)
	}
	return r, true
}

// orderOf returns the order that a list is, and whether it is one.
func orderOf(list []int64) (relation, bool) {
	r, ok := relationOf(list)
	if !ok || !r.isOrder() {
		return nil, false
	}
	return r, true
}

// converse returns the relation in the opposite direction.
func (r relation) converse() relation {
	c := make(relation, len(r))
	for i, s := range r {
		for _, k := range s.members() {
			c[k] = c[k].with(int64(i))
		}
	}
	return c
}

// mutual returns the part of the relation that holds in both directions.
func (r relation) mutual() relation {
	m := r.converse()
	for i := range m {
		m[i] &= r[i]
	}
	return m
}

// union returns the relation of all that is related in r or in q, on as many elements.
func (r relation) union(q relation) relation {
	u := slices.Clone(r)
	for i := range u {
		u[i] |= q[i]
	}
	return u
}

// strict returns the relation without the pairs of an element and itself.
func (r relation) strict() relation {
	t := slices.Clone(r)
	for i := range t {
		t[i] = t[i].minus(1 << i)
	}
	return t
}

// closure returns the least reflexive and transitive relation that contains r.
func (r relation) closure() relation {
	c := slices.Clone(r)
	for i := range c {
		c[i] = c[i].with(int64(i))
	}
	// Warshall's algorithm: after round j, all paths through 0..j are single pairs.
	for j := range c {
		for i := range c {
			if c[i].has(int64(j)) {
				c[i] |= c[j]
			}
		}
	}
	return c
}

// isOrder reports whether the relation is reflexive, transitive and antisymmetric.
func (r relation) isOrder() bool {
	for i, s := range r.mutual() {
		if s != 1<<i {
			return false
		}
	}
	return slices.Equal(r, r.closure())
}

// covers returns, for each element of an order, the set of its covers.
func (r relation) covers() relation {
	above := r.strict()
	c := slices.Clone(above)
	for i, s := range above {
		for _, j := range s.members() {
			c[i] = c[i].minus(above[j])
		}
	}
	return c
}

// classes returns the classes of the least equivalence that contains the relation.
func (r relation) classes() []set {
	var list []set
	for i, class := range r.union(r.converse()).closure() {
		if class.least() == int64(i) {
			list = append(list, class)
		}
	}
	return list
}

// cliques returns all cliques in ascending order, and whether they are at most MaxFamily.
func (r relation) cliques() ([]set, bool) {
	mutual := r.mutual()
	return familyOf(firstNumbers(len(r)).members(), func(s set, k int64) bool {
		return s.isWithin(mutual[k])
	})
}

// maximalCliques returns the cliques that are not subsets of other ones, in ascending order, and
// whether all cliques are at most MaxFamily.
func (r relation) maximalCliques() ([]set, bool) {
	cliques, ok := r.cliques()
	mutual := r.mutual()
	var list []set
	for _, c := range cliques {
		common := firstNumbers(len(r))
		for _, k := range c.members() {
			common &= mutual[k]
		}
		if common.isWithin(c) {
			list = append(list, c)
		}
	}
	return list, ok
}

// downsets returns all downsets of an order in ascending order, and whether they are at most
// MaxFamily.
func (r relation) downsets() ([]set, bool) {
	below := r.converse().strict()
	elements := firstNumbers(len(r)).members()
	// An element has more elements below it than any of those has, so that they come before it.
	slices.SortFunc(elements, func(i, k int64) int {
		return cmp.Compare(below[i].size(), below[k].size())
	})
	return familyOf(elements, func(s set, k int64) bool {
		return below[k].isWithin(s)
	})
}

// familyOf returns, in ascending order, the sets that come from the empty one by adding or
// leaving out each of the elements, in their order, where an element is only added to the sets
// that it fits. It returns false if there are more than MaxFamily. No set is ever dropped, so that
// it can stop at the first one too many, and takes few steps however large the full family is.
func familyOf(elements []int64, fits func(s set, k int64) bool) ([]set, bool) {
	family := []set{0}
	for _, k := range elements {
		for _, s := range family {
			if !fits(s, k) {
				continue
			}
			if len(family) == MaxFamily {
				return nil, false
			}
			family = append(family, s.with(k))
		}
	}
	slices.Sort(family)
	return family, true
}

// familyIn returns the masks of a family of sets of a relation, and ErrNone. It returns ErrInvalid
// if the relation was found not to be valid, and otherwise ErrLimit if the family is too large.
func familyIn(r relation, isValid bool, family func(relation) ([]set, bool)) ([]int64, int64) {
	if !isValid {
		return nil, ErrInvalid
	}
	sets, ok := family(r)
	if !ok {
		return nil, ErrLimit
	}
	return masksOf(sets), ErrNone
}

// IsMask reports whether n is in 0..MaxSet and mask is a mask of n elements.
func IsMask(mask int64, n int64) bool {
	// A negative mask is not within any set of numbers, as its sign is a bit of its own.
	return n >= 0 && n <= MaxSet && set(mask).isWithin(firstNumbers(int(n)))
}

// MembersOf returns the members of a set in ascending order, and ErrNone. Errors: ErrRange if mask
// is not a mask of MaxSet elements.
func MembersOf(mask int64) ([]int64, int64) {
	if !IsMask(mask, MaxSet) {
		return nil, ErrRange
	}
	return set(mask).members(), ErrNone
}

// MaskOf returns the mask of the set of all elements of a list, which need not be sorted and may
// have an element several times, and ErrNone. Errors: ErrRange if an element is not in 0..MaxSet -
// 1.
func MaskOf(list []int64) (int64, int64) {
	var s set
	for _, k := range list {
		if k < 0 || k >= MaxSet {
			return 0, ErrRange
		}
		s = s.with(k)
	}
	return int64(s), ErrNone
}

// IsRelation reports whether r is a relation.
func IsRelation(r []int64) bool {
	_, ok := relationOf(r)
	return ok
}

// ConverseOf returns the relation in which i is related to k exactly if k is related to i in r,
// and ErrNone.
func ConverseOf(r []int64) ([]int64, int64) {
	rel, ok := relationOf(r)
	if !ok {
		return nil, ErrInvalid
	}
	return masksOf(rel.converse()), ErrNone
}

// ClosureOfRelation returns the least relation that is reflexive and transitive and in which all that is
// related in r is related, and ErrNone.
func ClosureOfRelation(r []int64) ([]int64, int64) {
	rel, ok := relationOf(r)
	if !ok {
		return nil, ErrInvalid
	}
	return masksOf(rel.closure()), ErrNone
}

// IsOrder reports whether r is an order.
func IsOrder(r []int64) bool {
	_, ok := orderOf(r)
	return ok
}

// CoversOf returns, for each element i of an order, the set of all elements that cover i, and
// ErrNone.
func CoversOf(r []int64) ([]int64, int64) {
	order, ok := orderOf(r)
	if !ok {
		return nil, ErrInvalid
	}
	return masksOf(order.covers()), ErrNone
}

// ComponentsOf returns the classes of the least equivalence in which all that is related in r is
// equivalent, as masks, in ascending order of their least members, and ErrNone.
func ComponentsOf(r []int64) ([]int64, int64) {
	rel, ok := relationOf(r)
	if !ok {
		return nil, ErrInvalid
	}
	return masksOf(rel.classes()), ErrNone
}

// CliquesOf returns all cliques in ascending order, and ErrNone. Errors: ErrLimit if there are
// more than MaxFamily.
func CliquesOf(r []int64) ([]int64, int64) {
	rel, ok := relationOf(r)
	return familyIn(rel, ok, relation.cliques)
}

// MaximalCliques returns the cliques that are not subsets of other cliques, in ascending order,
// and ErrNone. Errors: as for CliquesOf.
func MaximalCliques(r []int64) ([]int64, int64) {
	rel, ok := relationOf(r)
	return familyIn(rel, ok, relation.maximalCliques)
}

// DownsetsOf returns all downsets of an order in ascending order, and ErrNone. Errors: ErrLimit if
// there are more than MaxFamily.
func DownsetsOf(r []int64) ([]int64, int64) {
	order, ok := orderOf(r)
	return familyIn(order, ok, relation.downsets)
}
