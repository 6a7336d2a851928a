package tests

import (
	"cmp"
	"slices"

	"loop.example/g01094/impl"
)

// The functions of this file follow the definitions of chapter 4: for short words by looking at all
// sets of positions, and for long ones in other ways than the program does.

// refOrder returns the order of the indices of a word, which are the positions of its trace if it is
// the normal form.
func refOrder(x impl.Alphabet, w []int64) []int64 {
	r := make([]int64, len(w))
	for i := range w {
		for k := i + 1; k < len(w); k++ {
			if related(x.Depends, int(w[i]), int(w[k])) {
				r[i] |= 1 << k
			}
		}
	}
	return refClosure(r)
}

func areConcurrent(order []int64, i, k int) bool {
	return i != k && !related(order, i, k) && !related(order, k, i)
}

func refConcurrentWith(order []int64, i int) int64 {
	s := int64(0)
	for k := range order {
		if areConcurrent(order, i, k) {
			s |= 1 << k
		}
	}
	return s
}

// refMembers returns the members of a set in ascending order.
func refMembers(s int64) []int64 {
	var list []int64
	for k := range 24 {
		if isMember(s, k) {
			list = append(list, int64(k))
		}
	}
	return list
}

// refIsChain reports whether no two members of s are concurrent.
func refIsChain(order []int64, s int64) bool {
	for _, i := range refMembers(s) {
		for _, k := range refMembers(s) {
			if areConcurrent(order, int(i), int(k)) {
				return false
			}
		}
	}
	return true
}

// refIsWide reports whether any two members of s are concurrent or equal.
func refIsWide(order []int64, s int64) bool {
	for _, i := range refMembers(s) {
		for _, k := range refMembers(s) {
			if i != k && !areConcurrent(order, int(i), int(k)) {
				return false
			}
		}
	}
	return true
}

// compareChains puts longer lists before shorter ones, and smaller ones before greater ones with
// the same length.
func compareChains(u, v []int64) int {
	return cmp.Or(cmp.Compare(len(v), len(u)), slices.Compare(u, v))
}

// lettersAt returns the letters of a word at the indices that are members of s.
func lettersAt(w []int64, s int64) []int64 {
	letters := []int64{}
	for _, i := range refMembers(s) {
		letters = append(letters, w[i])
	}
	return letters
}

// facts are what chapter 4 says of a trace.
type facts struct {
	normal, order, prefixes, latest, chain []int64
	height, width, first, last             int64
}

// factsOfClass finds the facts of the trace whose words are given by its definitions alone.
func factsOfClass(x impl.Alphabet, class [][]int64) facts {
	f := facts{normal: class[0], order: refOrder(x, class[0]), height: int64(len(refFoata(x, class[0])))}
	f.prefixes = refDownsets(f.order)
	chains := setsWhere(f.order, refIsChain)
	for i := range f.order {
		most := 0
		for _, c := range chains {
			isLeast := isMember(c, i) && c&^f.order[i] == 0
			if isLeast {
				most = max(most, len(refMembers(c)))
			}
		}
		f.latest = append(f.latest, f.height+1-int64(most))
	}
	for _, c := range chains {
		if list := refMembers(c); compareChains(list, f.chain) < 0 {
			f.chain = list
		}
	}
	for _, s := range setsWhere(f.order, refIsWide) {
		f.width = max(f.width, int64(len(refMembers(s))))
	}
	for _, w := range class {
		if len(w) > 0 {
			f.first |= 1 << w[0]
			f.last |= 1 << w[len(w)-1]
		}
	}
	return f
}

// factsOfWord finds the facts of a trace that may have very many words and prefixes.
func factsOfWord(x impl.Alphabet, w []int64) facts {
	normal := refExtreme(x, w, 1)
	f := facts{normal: normal, order: refOrder(x, normal), height: int64(slices.Max(append(refHeights(x, w), 0)))}
	f.prefixes = grownDownsets(f.order)
	for _, height := range refHeights(x, reversed(normal)) {
		f.latest = append(f.latest, f.height+1-int64(height))
	}
	slices.Reverse(f.latest)
	f.chain = bestChain(f.order)
	f.width = int64(len(normal) - matched(f.order))
	for _, i := range refStarts(x, w) {
		f.first |= 1 << w[i]
	}
	for _, i := range refStarts(x, reversed(w)) {
		f.last |= 1 << reversed(w)[i]
	}
	return f
}

// grownDownsets returns all downsets of an order in ascending order: those with one element more
// come from the others by adding an element that has all below it in them.
func grownDownsets(order []int64) []int64 {
	below := refConverse(order)
	all := []int64{0}
	level := []int64{0}
	for range order {
		var larger []int64
		for _, s := range level {
			for k := range order {
				if !isMember(s, k) && below[k]&^(s|1<<k) == 0 {
					larger = append(larger, s|1<<k)
				}
			}
		}
		slices.Sort(larger)
		level = slices.Compact(larger)
		all = append(all, level...)
	}
	slices.Sort(all)
	return all
}

// bestChain returns the first one by compareChains of all chains of an order in which elements are
// below greater ones only: for each element it keeps the first one that begins there.
func bestChain(order []int64) []int64 {
	best := make([][]int64, len(order)+1)
	for i := len(order) - 1; i >= 0; i-- {
		best[i] = []int64{int64(i)}
		for k := i + 1; k < len(order); k++ {
			if longer := append([]int64{int64(i)}, best[k]...); related(order, i, k) && compareChains(longer, best[i]) < 0 {
				best[i] = longer
			}
		}
	}
	return slices.MinFunc(best, compareChains)
}

// matched returns how many elements of an order can be led to elements that they are below, but not
// to themselves, no two to the same one. The elements less these are the fewest chains that have
// all elements, which are as many as the most elements that are concurrent (Dilworth).
func matched(order []int64) int {
	from := slices.Repeat([]int{-1}, len(order))
	var lead func(i int, tried []bool) bool
	lead = func(i int, tried []bool) bool {
		for k := range order {
			if i == k || !related(order, i, k) || tried[k] {
				continue
			}
			tried[k] = true
			if from[k] < 0 || lead(from[k], tried) {
				from[k] = i
				return true
			}
		}
		return false
	}
	number := 0
	for i := range order {
		if lead(i, make([]bool, len(order))) {
			number++
		}
	}
	return number
}

// linearWords returns the words that the linear orders of positions give that agree with an order,
// in ascending order, each one as often as it is given.
func linearWords(order, letters []int64) [][]int64 {
	below := refConverse(order)
	var list [][]int64
	var extend func(done int64, w []int64)
	extend = func(done int64, w []int64) {
		if len(w) == len(order) {
			list = append(list, w)
		}
		for k := range order {
			if !isMember(done, k) && below[k]&^(done|1<<k) == 0 {
				extend(done|1<<k, append(slices.Clone(w), letters[k]))
			}
		}
	}
	extend(0, []int64{})
	slices.SortFunc(list, slices.Compare)
	return list
}

// countLinear returns the number of linear orders that agree with an order whose downsets are given
// in ascending order.
func countLinear(order, downsets []int64) int64 {
	counts := map[int64]int64{0: 1}
	for _, s := range downsets {
		for k := range order {
			if less := s &^ (1 << k); less != s {
				counts[s] += counts[less] // 0 if this is no downset
			}
		}
	}
	return counts[1<<len(order)-1]
}

// allOrders returns all orders on n elements.
func allOrders(n int) [][]int64 {
	var list [][]int64
	for all := int64(0); all < 1<<(n*n); all++ {
		r := make([]int64, n)
		for i := range r {
			r[i] = all >> (i * n) & (1<<n - 1)
		}
		if refIsOrder(r) {
			list = append(list, r)
		}
	}
	return list
}

// labelled is an order whose elements have letters.
type labelled struct{ labels, order []int64 }

// under returns the same with the element i as names[i].
func (p labelled) under(names []int) labelled {
	labels := make([]int64, len(p.labels))
	for i, name := range names {
		labels[name] = p.labels[i]
	}
	return labelled{labels, renamed(p.order, names)}
}

// refWordOfOrder returns a word of the trace with a labelled order, or nil if there is none: there
// is one exactly if elements whose letters depend on each other are related, and elements that
// cover each other have letters that depend on each other.
func refWordOfOrder(x impl.Alphabet, p labelled) []int64 {
	for i, a := range p.labels {
		for k, b := range p.labels {
			dependent := related(x.Depends, int(a), int(b))
			if dependent && areConcurrent(p.order, i, k) || refIsCover(p.order, i, k) && !dependent {
				return nil
			}
		}
	}
	below := refConverse(p.order)
	w := []int64{}
	for done := int64(0); len(w) < len(p.order); {
		for k := range p.order {
			if !isMember(done, k) && below[k]&^(done|1<<k) == 0 {
				done |= 1 << k
				w = append(w, p.labels[k])
			}
		}
	}
	return w
}

// changedOrders returns labelled orders that differ a little: with a pair more, with a cover less,
// with a cover turned round, and with another letter.
func changedOrders(p labelled, letters int64) []labelled {
	var list []labelled
	add := func(order []int64) {
		if order = refClosure(order); refIsOrder(order) {
			list = append(list, labelled{p.labels, order})
		}
	}
	for i := range p.order {
		for k := range p.order {
			more := slices.Clone(p.order)
			more[i] |= 1 << k
			add(more)
			if refIsCover(p.order, i, k) {
				turned := slices.Clone(p.order)
				turned[i] &^= 1 << k
				add(turned)
				turned[k] |= 1 << i
				add(turned)
			}
		}
		for a := range letters {
			labels := slices.Clone(p.labels)
			labels[i] = a
			list = append(list, labelled{labels, p.order})
		}
	}
	return list
}
