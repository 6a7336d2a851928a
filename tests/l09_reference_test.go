package tests

import (
	"cmp"
	"math/big"
	"slices"
	"testing"

	"loop.example/g01094/impl"
)

// The functions of this file follow the definitions of chapter 9: for short signed words by looking at
// all of them, and at the exchanges, removals and insertions that lead from one to the other, and for
// long ones by pilings, and in other ways than the program does.

// signed returns the signed word with a text, in which no signed letters have no text.
func signed(text string) []int64 {
	w := []int64{}
	for _, c := range text {
		if c >= 'a' {
			w = append(w, int64(c-'a')+1)
		} else {
			w = append(w, int64('A'-c)-1)
		}
	}
	return w
}

func refSignedText(w []int64) string {
	if len(w) == 0 {
		return "-"
	}
	text := make([]byte, len(w))
	for i, s := range w {
		if s > 0 {
			text[i] = "abcdefgh"[s-1]
		} else {
			text[i] = "ABCDEFGH"[-s-1]
		}
	}
	return string(text)
}

// allSigned returns the signed letters of n letters in their order.
func allSigned(n int64) []int64 {
	return []int64{1, -1, 2, -2, 3, -3, 4, -4, 5, -5, 6, -6, 7, -7, 8, -8}[:2*n]
}

// place returns the index of a signed letter in their order.
func place(s int64) int64 { return int64(slices.Index(allSigned(8), s)) }

// compareSigned compares signed words as lists, by the order of signed letters.
func compareSigned(u, v []int64) int {
	return slices.CompareFunc(u, v, func(s, r int64) int { return cmp.Compare(place(s), place(r)) })
}

// letterOf returns the letter of a signed letter.
func letterOf(s int64) int { return int(max(s, -s)) - 1 }

func refIsSignedWord(x impl.Alphabet, w []int64) bool {
	if !refIsAlphabet(x) || len(w) > 24 {
		return false
	}
	return !slices.ContainsFunc(w, func(s int64) bool { return !slices.Contains(allSigned(x.Letters), s) })
}

// inverted returns the inverses of the signed letters of w, from the last one to the first one.
func inverted(w []int64) []int64 {
	v := reversed(w)
	for i := range v {
		v[i] = -v[i]
	}
	return v
}

// shared reports whether two signed letters are not independent.
func shared(x impl.Alphabet, s, r int64) bool { return related(x.Depends, letterOf(s), letterOf(r)) }

// refIsReduced looks for a signed letter and its inverse with only independent ones between them.
func refIsReduced(x impl.Alphabet, w []int64) bool {
	for i, s := range w {
		for _, r := range w[i+1:] {
			if r == -s {
				return false
			}
			if shared(x, s, r) {
				break
			}
		}
	}
	return true
}

// signedWordsUpTo returns all signed words of n letters with at most a length: shorter ones first, and
// those with the same length in ascending order.
func signedWordsUpTo(n int64, length int) [][]int64 {
	list, level := [][]int64{{}}, [][]int64{{}}
	for range length {
		var longer [][]int64
		for _, w := range level {
			for _, s := range allSigned(n) {
				longer = append(longer, append(slices.Clone(w), s))
			}
		}
		list, level = append(list, longer...), longer
	}
	return list
}

// signedNeighbours returns the words that one exchange of independent neighbours, or one removal of a
// signed letter with its inverse, makes of w.
func signedNeighbours(x impl.Alphabet, w []int64) [][]int64 {
	var list [][]int64
	for i := 1; i < len(w); i++ {
		if w[i] == -w[i-1] {
			list = append(list, slices.Concat(w[:i-1], w[i+1:]))
		} else if !shared(x, w[i-1], w[i]) {
			v := slices.Clone(w)
			v[i-1], v[i] = w[i], w[i-1]
			list = append(list, v)
		}
	}
	return list
}

// elements has all signed words of an alphabet with at most so many signed letters, and the elements
// of the graph group that have them: those words are in one element that exchanges, removals and
// insertions make of each other. Elements are given by their numbers in it.
type elements struct {
	x       impl.Alphabet
	length  int
	classes [][][]int64    // the words of each element, shorter ones first, and then in ascending order
	number  map[string]int // the element of each word, under its text
}

func elementsOf(t *testing.T, x impl.Alphabet, length int) elements {
	t.Helper()
	list := signedWordsUpTo(x.Letters, length)
	index := map[string]int{}
	for i, w := range list {
		index[refSignedText(w)] = i
	}
	first := make([]int, len(list)) // an index of a word of the same element, in the end the first one
	for i := range first {
		first[i] = i
	}
	find := func(i int) int {
		for first[i] != i {
			first[i] = first[first[i]]
			i = first[i]
		}
		return i
	}
	for i, w := range list {
		for _, v := range signedNeighbours(x, w) {
			p, q := find(i), find(index[refSignedText(v)])
			first[max(p, q)] = min(p, q)
		}
	}
	e := elements{x: x, length: length, number: map[string]int{}}
	for i, w := range list {
		text := refSignedText(w)
		if root := find(i); root == i {
			e.number[text] = len(e.classes)
			e.classes = append(e.classes, [][]int64{w})
		} else {
			u := e.number[refSignedText(list[root])]
			e.number[text] = u
			e.classes[u] = append(e.classes[u], w)
		}
	}
	e.mustHaveShortNormalForms(t)
	return e
}

// mustHaveShortNormalForms reports an error unless the reduced words of each element are its shortest
// ones, so that the first one of all its words is its normal form.
func (e elements) mustHaveShortNormalForms(t *testing.T) {
	t.Helper()
	for u, class := range e.classes {
		for _, w := range class {
			if refIsReduced(e.x, w) != (len(w) == e.size(u)) {
				t.Fatalf("%v has %d signed letters, and %v fewest, in %v", w, len(w), class[0], e.x)
			}
		}
	}
}

// normal returns the normal form of an element.
func (e elements) normal(u int) []int64 { return e.classes[u][0] }

// size returns the length of an element.
func (e elements) size(u int) int { return len(e.normal(u)) }

// of returns the element of a word, which must not be longer than those that there are.
func (e elements) of(words ...[]int64) int {
	u, ok := e.number[refSignedText(slices.Concat(words...))]
	if !ok {
		return -1
	}
	return u
}

// reduced returns the reduced words of an element, its shortest ones.
func (e elements) reduced(u int) [][]int64 {
	class := e.classes[u]
	i := slices.IndexFunc(class, func(w []int64) bool { return len(w) > e.size(u) })
	if i < 0 {
		return class
	}
	return class[:i]
}

// cyclicReduction returns the core and the frame of an element: it looks for reduced words with a
// signed letter at the beginning and its inverse at the end.
func (e elements) cyclicReduction(u int) (core, frame int) {
	var outer []int64
	for {
		var best []int64
		for _, w := range e.reduced(u) {
			if len(w) > 1 && w[0] == -w[len(w)-1] && (best == nil || place(w[0]) < place(best[0])) {
				best = w
			}
		}
		if best == nil {
			return u, e.of(outer)
		}
		outer = append(outer, best[0])
		u = e.of(best[1 : len(best)-1])
	}
}

// roots returns the root of each element but the identity, and its exponent: it looks at all powers of
// all elements.
func (e elements) roots(t *testing.T) (roots, exponents []int) {
	t.Helper()
	roots, exponents = none(len(e.classes)), make([]int, len(e.classes))
	for u := range e.classes {
		power := []int64{}
		for k := 1; e.size(u) > 0; k++ {
			power = refGroupForm(e.x, slices.Concat(power, e.normal(u)))
			if len(power) > e.length {
				break
			}
			v := e.of(power)
			if exponents[v] == k {
				t.Fatalf("%v has two roots", power)
			}
			if exponents[v] < k {
				roots[v], exponents[v] = u, k
			}
		}
	}
	return roots, exponents
}

// rotated returns, for each element to which the element of a core can be rotated by one signed
// letter, this letter, by the order of signed letters.
func (e elements) rotated(u int) (letters []int64, to []int) {
	for _, s := range allSigned(e.x.Letters) {
		i := slices.IndexFunc(e.reduced(u), func(w []int64) bool { return len(w) > 0 && w[0] == s })
		if i >= 0 {
			letters = append(letters, s)
			to = append(to, e.of(e.reduced(u)[i][1:], []int64{s}))
		}
	}
	return letters, to
}

// conjugators returns, for each element to which rotations lead from a core, the first one of all
// words by which they do, shorter words being before longer ones. It tries all words, without looking
// at where others have led, until all words with one length lead to nothing new.
func (e elements) conjugators(core int) map[int][]int64 {
	type way struct {
		letters []int64
		to      int
	}
	first := map[int][]int64{core: {}}
	ways := []way{{nil, core}}
	for isNew := true; isNew; {
		isNew = false
		var longer []way
		for _, w := range ways {
			letters, to := e.rotated(w.to)
			for i, next := range to {
				way := way{append(slices.Clone(w.letters), letters[i]), next}
				longer = append(longer, way)
				if _, isKnown := first[next]; !isKnown {
					first[next], isNew = way.letters, true
				}
			}
		}
		ways = longer
	}
	return first
}

// piling has a stack for each letter of an alphabet. A signed letter puts its sign on the stack of its
// letter, and 0 on those of the other letters that depend on it; if its inverse lies on top, this is
// taken away with what belongs to it instead. Words lead to one piling exactly if they are equal in the
// group: Crisp, Godelle and Wiest solve the word problem in this way.
type piling struct {
	x      impl.Alphabet
	stacks [][]int64
}

func pilingOf(x impl.Alphabet, w []int64) piling {
	p := piling{x, make([][]int64, x.Letters)}
	for b := range p.stacks {
		p.stacks[b] = make([]int64, 0, len(w))
	}
	for _, s := range w {
		p.put(s)
	}
	return p
}

func sign(s int64) int64 { return int64(cmp.Compare(s, 0)) }

// isTop reports whether a signed letter is a last letter.
func (p piling) isTop(s int64) bool {
	stack := p.stacks[letterOf(s)]
	return len(stack) > 0 && stack[len(stack)-1] == sign(s)
}

// isBottom reports whether a signed letter is a first letter.
func (p piling) isBottom(s int64) bool {
	stack := p.stacks[letterOf(s)]
	return len(stack) > 0 && stack[0] == sign(s)
}

func (p piling) put(s int64) {
	isUndone := p.isTop(-s)
	for b, stack := range p.stacks {
		switch {
		case !related(p.x.Depends, letterOf(s), b):
		case isUndone:
			p.stacks[b] = stack[:len(stack)-1]
		case b == letterOf(s):
			p.stacks[b] = append(stack, sign(s))
		default:
			p.stacks[b] = append(stack, 0)
		}
	}
}

// dig takes a first letter away.
func (p piling) dig(s int64) {
	for b, stack := range p.stacks {
		if related(p.x.Depends, letterOf(s), b) {
			p.stacks[b] = stack[1:]
		}
	}
}

// bottoms returns the first letters in their order.
func (p piling) bottoms() []int64 {
	return slices.DeleteFunc(allSigned(p.x.Letters), func(s int64) bool { return !p.isBottom(s) })
}

// refGroupForm takes the smallest first letter away from the piling of w, again and again.
func refGroupForm(x impl.Alphabet, w []int64) []int64 {
	p := pilingOf(x, w)
	form := []int64{}
	for list := p.bottoms(); len(list) > 0; list = p.bottoms() {
		form = append(form, list[0])
		p.dig(list[0])
	}
	return form
}

// refTurn returns the normal form of an element between the inverse of a signed letter and this.
func refTurn(x impl.Alphabet, w []int64, s int64) []int64 {
	return refGroupForm(x, slices.Concat([]int64{-s}, w, []int64{s}))
}

func refCyclicReduction(x impl.Alphabet, w []int64) (core, frame []int64) {
	core = refGroupForm(x, w)
	for {
		p := pilingOf(x, core)
		i := slices.IndexFunc(p.bottoms(), func(s int64) bool { return p.isTop(-s) })
		if i < 0 {
			return core, refGroupForm(x, frame)
		}
		s := p.bottoms()[i]
		core, frame = refTurn(x, core, s), append(frame, s)
	}
}

// carousel has the elements to which rotations lead from a core, each one under its text with the
// number of signed letters by which rotating leads from it to the core. They are found by going back,
// from last letters to first ones.
type carousel struct {
	x        impl.Alphabet
	normals  [][]int64
	distance map[string]int
}

// carouselOf returns this for the core of the element of a word, and whether there are at most limit
// elements.
func carouselOf(x impl.Alphabet, w []int64, limit int) (carousel, bool) {
	core, _ := refCyclicReduction(x, w)
	c := carousel{x, [][]int64{core}, map[string]int{refSignedText(core): 0}}
	for i := 0; i < len(c.normals); i++ {
		p := pilingOf(x, c.normals[i])
		for _, s := range allSigned(x.Letters) {
			if !p.isTop(s) {
				continue
			}
			before := refTurn(x, c.normals[i], -s)
			if _, isKnown := c.distance[refSignedText(before)]; !isKnown {
				c.distance[refSignedText(before)] = c.distance[refSignedText(c.normals[i])] + 1
				c.normals = append(c.normals, before)
			}
		}
		if len(c.normals) > limit {
			return c, false
		}
	}
	return c, true
}

// wayFrom returns the smallest one of the shortest words by which rotating leads from one of the
// elements to the core: its signed letters always take the next step on a shortest way.
func (c carousel) wayFrom(core []int64) []int64 {
	way := []int64{}
	for w := core; c.distance[refSignedText(w)] > 0; {
		list := pilingOf(c.x, w).bottoms()
		i := slices.IndexFunc(list, func(s int64) bool {
			return c.distance[refSignedText(refTurn(c.x, w, s))] == c.distance[refSignedText(w)]-1
		})
		w = refTurn(c.x, w, list[i])
		way = append(way, list[i])
	}
	return way
}

// conjugatorFrom returns the normal form that GroupConjugator is to return for a word u and the word v
// of whose core this is, and whether there is one. It may be longer than MaxWord.
func (c carousel) conjugatorFrom(u, v []int64) ([]int64, bool) {
	core, frame := refCyclicReduction(c.x, u)
	_, otherFrame := refCyclicReduction(c.x, v)
	if _, isKnown := c.distance[refSignedText(core)]; !isKnown {
		return nil, false
	}
	return refGroupForm(c.x, slices.Concat(frame, c.wayFrom(core), inverted(otherFrame))), true
}

// doubled returns the places of the signed letters of x as the letters of an alphabet, though there may
// be up to 16 of them.
func doubled(x impl.Alphabet) impl.Alphabet {
	return alphabetWhere(int(2*x.Letters), func(i, k int) bool { return related(x.Depends, i/2, k/2) })
}

// refGroupRoot returns the root of the element of a word that is not the identity, and its exponent:
// the pair projections of the core, as a trace of the places of signed letters, tell it.
func refGroupRoot(x impl.Alphabet, w []int64) ([]int64, int64) {
	core, frame := refCyclicReduction(x, w)
	var places []int64
	for _, s := range core {
		places = append(places, place(s))
	}
	root, k := refRoot(doubled(x), places)
	for i, p := range root {
		root[i] = allSigned(8)[p]
	}
	return refGroupForm(x, slices.Concat(frame, root, inverted(frame))), k
}

// refNumbersOfElements returns the numbers of elements by length, by the steps of their reduced words,
// one after the other: a letter that is in two steps that follow each other has the same sign in both,
// and each other one has one of two signs.
func refNumbersOfElements(x impl.Alphabet) bySize {
	f := foataOf(x)
	before := make([][]int, len(f.steps))
	for k, behind := range f.behind {
		for _, i := range behind {
			before[i] = append(before[i], k)
		}
	}
	total := bySize{1}
	numbers := make([]bySize, len(f.steps)) // by the last step
	for n := 1; n <= 24; n++ {
		for i, size := range f.sizes {
			if n == size {
				numbers[i].add(n, 1<<size)
			}
			for _, k := range before[i] {
				if n > size {
					signs := len(refMembers(f.steps[i] &^ f.steps[k]))
					numbers[i].add(n, numbers[k][n-size]<<signs)
				}
			}
			total.add(n, numbers[i][n])
		}
	}
	return total
}

// refSeriesOfElements returns the numbers of elements by length, however great they are. Where p is the
// clique polynomial, with the degree d, they are the coefficients of the inverse of p(2z / (1 + z)).
// Both sides are multiplied by (1 + z)^d.
func refSeriesOfElements(p []int64, n int) []*big.Int {
	degree := int64(len(p) - 1)
	divisor := make([]*big.Int, n+1)
	series := make([]*big.Int, n+1)
	for m := range divisor {
		divisor[m] = new(big.Int)
		for k, c := range p {
			if k <= m {
				term := new(big.Int).Binomial(degree-int64(k), int64(m-k))
				divisor[m].Add(divisor[m], term.Mul(term, big.NewInt(c<<k)))
			}
		}
		series[m] = new(big.Int).Binomial(degree, int64(m))
		for k := 1; k <= m; k++ {
			series[m].Sub(series[m], new(big.Int).Mul(divisor[k], series[m-k]))
		}
	}
	return series
}

// someSigned returns a signed word of n letters with a length.
func someSigned(x *numbers, n, length int) []int64 {
	w := make([]int64, length)
	for i := range w {
		w[i] = allSigned(int64(n))[x.below(2*n)]
	}
	return w
}

// disguised returns a word of the same element, which so many exchanges, removals and insertions make
// of a signed word. It has at most MaxWord signed letters.
func disguised(x *numbers, y impl.Alphabet, w []int64, times int) []int64 {
	for range times {
		if x.below(3) == 0 && len(w) < 23 && y.Letters > 0 {
			s := allSigned(y.Letters)[x.below(int(2*y.Letters))]
			w = slices.Insert(slices.Clone(w), x.below(len(w)+1), s, -s)
		} else if list := signedNeighbours(y, w); len(list) > 0 {
			w = list[x.below(len(list))]
		}
	}
	return w
}

// framed returns a word of the product of f, w and the inverse of f.
func framed(f, w []int64) []int64 { return slices.Concat(f, w, inverted(f)) }
