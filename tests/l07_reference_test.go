package tests

import (
	"math/big"
	"slices"
	"testing"

	"loop.example/g01094/impl"
)

// The functions of this file follow the definitions of chapter 7: for short words by looking at all
// words of all traces, and for long ones in other ways than the program does.

// refTraceComponents joins the letters that occur and depend on each other into components.
func refTraceComponents(x impl.Alphabet, w []int64) [][]int64 {
	letters := slices.Compact(slices.Sorted(slices.Values(w)))
	mask := int64(0)
	for _, a := range letters {
		mask |= 1 << a
	}
	var list [][]int64
	for _, class := range refComponents(refPart(x, mask).Depends) {
		part := int64(0)
		for _, i := range refMembers(class) {
			part |= 1 << letters[i]
		}
		list = append(list, refExtreme(x, refProjection(w, part), 1))
	}
	return list
}

// turns has all traces of an alphabet with at most so many letters, and for each trace and letter the
// trace to which rotating by the letter leads, or -1.
type turns struct {
	divisions
	rotated [][]int
}

func turnsOf(t *testing.T, x impl.Alphabet, length int) turns {
	t.Helper()
	d := turns{divisions: divisionsOf(t, x, length)}
	for _, class := range d.classes {
		rotated := none(int(x.Letters))
		for _, w := range class {
			if len(w) == 0 {
				continue
			}
			a, next := w[0], d.number[refWordText(append(slices.Clone(w[1:]), w[0]))]
			if rotated[a] >= 0 && rotated[a] != next {
				t.Fatalf("rotating %v by %d leads to two traces", w, a)
			}
			rotated[a] = next
		}
		d.rotated = append(d.rotated, rotated)
	}
	return d
}

// transposes returns the normal forms of the traces of all words that come of a word of a trace by
// dividing it in two and exchanging both parts.
func (d turns) transposes(v int) [][]int64 {
	var list [][]int64
	for _, w := range d.classes[v] {
		for i := range len(w) + 1 {
			list = append(list, d.normal(d.number[refWordText(slices.Concat(w[i:], w[:i]))]))
		}
	}
	return distinct(list)
}

// distinct returns a list in ascending order, each element once.
func distinct(list [][]int64) [][]int64 {
	slices.SortFunc(list, slices.Compare)
	return slices.CompactFunc(list, slices.Equal)
}

// conjugates returns the numbers of all traces to which rotations lead from a trace.
func (d turns) conjugates(v int) []int {
	list := []int{v}
	for i := 0; i < len(list); i++ {
		for _, next := range d.rotated[list[i]] {
			if next >= 0 && !slices.Contains(list, next) {
				list = append(list, next)
			}
		}
	}
	return list
}

// normals returns the normal forms of traces in ascending order.
func (d turns) normals(list []int) [][]int64 {
	var normals [][]int64
	for _, v := range list {
		normals = append(normals, d.normal(v))
	}
	return distinct(normals)
}

// conjugators returns, for each conjugate of a trace, the first one of all words by which rotating
// leads to it, shorter words being before longer ones. It tries all words by which the trace can be
// rotated, without looking at where others have led.
func (d turns) conjugators(v int) map[int][]int64 {
	type way struct {
		letters []int64
		to      int
	}
	first := map[int][]int64{v: {}}
	number := len(d.conjugates(v))
	for ways := []way{{nil, v}}; len(first) < number; {
		var longer []way
		for _, w := range ways {
			for a, next := range d.rotated[w.to] {
				if next < 0 {
					continue
				}
				letters := append(slices.Clone(w.letters), int64(a))
				longer = append(longer, way{letters, next})
				if _, isKnown := first[next]; !isKnown {
					first[next] = letters
				}
			}
		}
		ways = longer
	}
	return first
}

// roots returns the root of each trace that is not empty, and its exponent: it looks at all powers of
// all traces.
func (d turns) roots(t *testing.T, length int) (roots, exponents []int) {
	t.Helper()
	roots, exponents = none(len(d.classes)), make([]int, len(d.classes))
	for u := range d.classes {
		for k := 1; d.length(u) > 0 && k*d.length(u) <= length; k++ {
			v := d.number[refWordText(slices.Repeat(d.normal(u), k))]
			if exponents[v] == k {
				t.Fatalf("%v has two roots", d.normal(v))
			}
			if exponents[v] < k {
				roots[v], exponents[v] = u, k
			}
		}
	}
	return roots, exponents
}

// wordExponent returns the greatest number of equal words that give w one after the other, 0 for the
// empty word.
func wordExponent(w []int64) int {
	for k := len(w); k > 1; k-- {
		if len(w)%k == 0 && slices.Equal(slices.Repeat(w[:len(w)/k], k), w) {
			return k
		}
	}
	return min(len(w), 1)
}

// refRoot returns the root of a trace that is not empty, and its exponent. A trace is a power with
// the exponent k exactly if all its pair projections are: so the exponent is the greatest number that
// divides all theirs.
func refRoot(x impl.Alphabet, w []int64) ([]int64, int64) {
	exponent := 0
	for _, p := range refPairProjections(x, w) {
		for k := wordExponent(p); k != 0; {
			exponent, k = k, exponent%k
		}
	}
	var root []int64
	taken := make([]int64, x.Letters)
	for _, a := range w {
		if taken[a] < refContent(x, w)[a]/int64(exponent) {
			taken[a]++
			root = append(root, a)
		}
	}
	return refExtreme(x, root, 1), int64(exponent)
}

// refRotate rotates a word by letters, and returns the normal form, or nil if a letter is no first
// letter at its time.
func refRotate(x impl.Alphabet, w, letters []int64) []int64 {
	for _, a := range letters {
		if !slices.Contains(startLetters(x, w), a) {
			return nil
		}
		w = append(lessFirst([]int64{a}, w), a)
	}
	return refExtreme(x, w, 1)
}

// refTransposes exchanges the letters of each downset with the others.
func refTransposes(x impl.Alphabet, w []int64) [][]int64 {
	var list [][]int64
	for _, s := range grownDownsets(refOrder(x, w)) {
		list = append(list, refExtreme(x, append(lettersAt(w, 1<<len(w)-1-s), lettersAt(w, s)...), 1))
	}
	return distinct(list)
}

// roundabout has the conjugates of a trace, each one under its text with the number of letters by
// which rotating leads from it to the trace. They are found by going back, from last letters to first
// ones.
type roundabout struct {
	x        impl.Alphabet
	normals  [][]int64
	distance map[string]int
}

// roundaboutOf returns this for the trace of a word, and whether there are at most limit conjugates.
func roundaboutOf(x impl.Alphabet, w []int64, limit int) (roundabout, bool) {
	first := refExtreme(x, w, 1)
	r := roundabout{x, [][]int64{first}, map[string]int{refWordText(first): 0}}
	for i := 0; i < len(r.normals); i++ {
		distance := r.distance[refWordText(r.normals[i])]
		back := reversed(r.normals[i])
		for _, a := range startLetters(x, back) {
			before := refExtreme(x, append([]int64{a}, reversed(lessFirst([]int64{a}, back))...), 1)
			if _, isKnown := r.distance[refWordText(before)]; !isKnown {
				r.distance[refWordText(before)] = distance + 1
				r.normals = append(r.normals, before)
			}
		}
		if len(r.normals) > limit {
			return r, false
		}
	}
	r.normals = distinct(r.normals)
	return r, true
}

// conjugatorFrom returns the smallest one of the shortest words by which rotating leads from one of
// the conjugates to the trace: its letters always take the next step on a shortest way.
func (r roundabout) conjugatorFrom(u []int64) []int64 {
	z := []int64{}
	for w := refExtreme(r.x, u, 1); r.distance[refWordText(w)] > 0; {
		letters := startLetters(r.x, w)
		slices.Sort(letters)
		i := slices.IndexFunc(letters, func(a int64) bool {
			return r.distance[refWordText(refRotate(r.x, w, []int64{a}))] == r.distance[refWordText(w)]-1
		})
		w = refRotate(r.x, w, letters[i:i+1])
		z = append(z, letters[i])
	}
	return z
}

// refLyndonNumbers returns the exponents L(1), L(2), .. for which the series of all traces is the
// product of (1 - z^k)^-L(k), as the number at 0 is not used: it takes factor after factor away.
func refLyndonNumbers(x impl.Alphabet, n int) []*big.Int {
	series := refInverse(refPolynomial(x), n)
	numbers := []*big.Int{big.NewInt(0)}
	for k := 1; k <= n; k++ {
		exponent := series[k] // as only the constant 1 is left before it
		numbers = append(numbers, exponent)
		left := make([]*big.Int, n+1)
		for m := range left {
			left[m] = new(big.Int)
			for i := 0; i*k <= m; i++ { // the coefficient of z^(i k) in (1 - z^k)^L(k)
				binomial := refBinomial(exponent, int64(i))
				if i%2 == 1 {
					binomial.Neg(binomial)
				}
				left[m].Add(left[m], binomial.Mul(binomial, series[m-i*k]))
			}
		}
		series = left
	}
	return numbers
}

// refBinomial returns the number of sets of i elements of n.
func refBinomial(n *big.Int, i int64) *big.Int {
	number := big.NewInt(1)
	for k := range i {
		number.Mul(number, new(big.Int).Sub(n, big.NewInt(k)))
		number.Div(number, big.NewInt(k+1))
	}
	return number
}
