package tests

import "slices"

// The functions of this file follow the definitions of chapter 1 word by word, by looking at all
// elements and all sets, so that they can be held against the program on small relations.

func related(r []int64, i, k int) bool { return r[i]>>k&1 == 1 }

func isMember(s int64, k int) bool { return s>>k&1 == 1 }

func refConverse(r []int64) []int64 {
	c := make([]int64, len(r))
	for i := range r {
		for k := range r {
			if related(r, k, i) {
				c[i] |= 1 << k
			}
		}
	}
	return c
}

// refClosure adds what reflexivity and transitivity demand until nothing is missing.
func refClosure(r []int64) []int64 {
	c := slices.Clone(r)
	for i := range c {
		c[i] |= 1 << i
	}
	for changed := true; changed; {
		changed = false
		for i := range c {
			for j := range c {
				for k := range c {
					if related(c, i, j) && related(c, j, k) && !related(c, i, k) {
						c[i] |= 1 << k
						changed = true
					}
				}
			}
		}
	}
	return c
}

func refIsOrder(r []int64) bool {
	for i := range r {
		if !related(r, i, i) {
			return false
		}
		for k := range r {
			if i != k && related(r, i, k) && related(r, k, i) {
				return false
			}
			for j := range r {
				if related(r, i, j) && related(r, j, k) && !related(r, i, k) {
					return false
				}
			}
		}
	}
	return true
}

func refIsCover(r []int64, i, k int) bool {
	if i == k || !related(r, i, k) {
		return false
	}
	for j := range r {
		if j != i && j != k && related(r, i, j) && related(r, j, k) {
			return false
		}
	}
	return true
}

func refCovers(r []int64) []int64 {
	c := make([]int64, len(r))
	for i := range r {
		for k := range r {
			if refIsCover(r, i, k) {
				c[i] |= 1 << k
			}
		}
	}
	return c
}

// refComponents starts with each element alone, and joins classes until all that is related is in
// one class.
func refComponents(r []int64) []int64 {
	class := make([]int, len(r))
	for i := range class {
		class[i] = i
	}
	for i := range r {
		for k := range r {
			if related(r, i, k) {
				from, to := max(class[i], class[k]), min(class[i], class[k])
				for j := range class {
					if class[j] == from {
						class[j] = to
					}
				}
			}
		}
	}
	masks := make([]int64, len(r))
	for i, c := range class {
		masks[c] |= 1 << i
	}
	return slices.DeleteFunc(masks, func(m int64) bool { return m == 0 })
}

func refIsClique(r []int64, s int64) bool {
	for i := range r {
		for k := range r {
			if i != k && isMember(s, i) && isMember(s, k) && !(related(r, i, k) && related(r, k, i)) {
				return false
			}
		}
	}
	return true
}

func refIsDownset(r []int64, s int64) bool {
	for i := range r {
		for k := range r {
			if related(r, i, k) && isMember(s, k) && !isMember(s, i) {
				return false
			}
		}
	}
	return true
}

// setsWhere returns all sets of the elements of r with a property, in ascending order.
func setsWhere(r []int64, holds func(r []int64, s int64) bool) []int64 {
	var list []int64
	for s := int64(0); s < 1<<len(r); s++ {
		if holds(r, s) {
			list = append(list, s)
		}
	}
	return list
}

func refCliques(r []int64) []int64 { return setsWhere(r, refIsClique) }

func refDownsets(r []int64) []int64 { return setsWhere(r, refIsDownset) }

func refMaximal(r []int64) []int64 {
	cliques := refCliques(r)
	var list []int64
	for _, c := range cliques {
		if !slices.ContainsFunc(cliques, func(d int64) bool { return d != c && c&^d == 0 }) {
			list = append(list, c)
		}
	}
	return list
}

// numbers is a fixed sequence of numbers that look arbitrary, the same one in each run.
type numbers uint64

func (x *numbers) below(n int) int {
	*x = *x*6364136223846793005 + 1442695040888963407
	return int(uint64(*x) >> 33 % uint64(n))
}

// someRelation returns a relation on n elements in which about one of so many pairs is related.
func someRelation(x *numbers, n, rare int) []int64 {
	r := make([]int64, n)
	for i := range r {
		for k := range r {
			if x.below(rare) == 0 {
				r[i] |= 1 << k
			}
		}
	}
	return r
}

// someNames returns the numbers 0..n - 1 in some order.
func someNames(x *numbers, n int) []int {
	names := make([]int, n)
	for i := range names {
		k := x.below(i + 1)
		names[i] = names[k]
		names[k] = i
	}
	return names
}

// renamed returns the relation in which names[i] is related to names[k] exactly if i is to k in r.
func renamed(r []int64, names []int) []int64 {
	q := make([]int64, len(r))
	for i := range r {
		for k := range r {
			if related(r, i, k) {
				q[names[i]] |= 1 << names[k]
			}
		}
	}
	return q
}

// someOrder returns an order on n elements that is not the order of their numbers.
func someOrder(x *numbers, n, rare int) []int64 {
	r := someRelation(x, n, rare)
	for i := range r {
		r[i] &^= 1<<i - 1
	}
	return renamed(refClosure(r), someNames(x, n))
}

// complete returns the relation on n elements in which all are related.
func complete(n int) []int64 {
	r := make([]int64, n)
	for i := range r {
		r[i] = 1<<n - 1
	}
	return r
}

// antichain returns the order on n elements in which only equal ones are related.
func antichain(n int) []int64 {
	r := make([]int64, n)
	for i := range r {
		r[i] = 1 << i
	}
	return r
}

// chains returns the order of chains of the given lengths beside each other.
func chains(lengths ...int) []int64 {
	var r []int64
	for _, length := range lengths {
		end := len(r) + length
		for len(r) < end {
			r = append(r, 1<<end-1<<len(r))
		}
	}
	return r
}

// between returns the relation that holds in both directions for elements neither of which is
// below the other one in the order r, and in one direction only for the other ones.
func between(r []int64) []int64 {
	q := make([]int64, len(r))
	for i := range r {
		for k := range r {
			if related(r, i, k) || !related(r, k, i) {
				q[i] |= 1 << k
			}
		}
	}
	return q
}
