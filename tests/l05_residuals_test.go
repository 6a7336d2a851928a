package tests

import (
	"math"
	"slices"
	"testing"

	"loop.example/g01094/impl"
)

// twoWords is a function of chapter 5 from an alphabet and two words.
type twoWords struct {
	name string
	call func(x impl.Alphabet, u, v []int64) ([]int64, int64)
}

// yes is the text of the list {1}, which stands for true.
const yes = "b"

// no is the code for what there is not.
const no = impl.ErrNotFound

// answers turns a function to a truth value into one to a list, {1} for true.
func answers(call func(impl.Alphabet, []int64, []int64) (bool, int64)) func(impl.Alphabet, []int64, []int64) ([]int64, int64) {
	return func(x impl.Alphabet, u, v []int64) ([]int64, int64) {
		got, code := call(x, u, v)
		if !got {
			return nil, code
		}
		return []int64{1}, code
	}
}

func continuationOfTwo(x impl.Alphabet, u, v []int64) ([]int64, int64) {
	return impl.CommonContinuation(x, [][]int64{u, v})
}

func pairCalls() []twoWords {
	return []twoWords{
		{"Concatenate", impl.Concatenate}, {"IsPrefix", answers(impl.IsPrefix)}, {"LeftQuotient", impl.LeftQuotient},
		{"RightQuotient", impl.RightQuotient}, {"AreIndependent", answers(impl.AreIndependent)}, {"MeetOf", impl.MeetOf},
		{"JoinOf", impl.JoinOf}, {"ResidualAfter", impl.ResidualAfter}, {"FactorBefore", impl.FactorBefore},
		{"CommonContinuation", continuationOfTwo},
	}
}

// residualCalls returns the functions of chapter 5 as functions of an alphabet and of each one of
// their words, with v as their other words.
func residualCalls(v []int64, mask int64) []wordCall {
	var list []wordCall
	for _, f := range pairCalls() {
		list = append(list,
			wordCall{f.name, oneList(func(x impl.Alphabet, w []int64) ([]int64, int64) { return f.call(x, w, v) })},
			wordCall{f.name, oneList(func(x impl.Alphabet, w []int64) ([]int64, int64) { return f.call(x, v, w) })})
	}
	return append(list,
		wordCall{"LeviOf", func(x impl.Alphabet, w []int64) ([][]int64, int64) { return impl.LeviOf(x, w, v, v, v) }},
		wordCall{"LeviOf", func(x impl.Alphabet, w []int64) ([][]int64, int64) { return impl.LeviOf(x, v, w, v, v) }},
		wordCall{"LeviOf", func(x impl.Alphabet, w []int64) ([][]int64, int64) { return impl.LeviOf(x, v, v, w, v) }},
		wordCall{"LeviOf", func(x impl.Alphabet, w []int64) ([][]int64, int64) { return impl.LeviOf(x, v, v, v, w) }},
		wordCall{"CommonContinuation", oneList(func(x impl.Alphabet, w []int64) ([]int64, int64) {
			return impl.CommonContinuation(x, [][]int64{v, v, w})
		})},
		wordCall{"PrefixIn", oneList(func(x impl.Alphabet, w []int64) ([]int64, int64) { return impl.PrefixIn(x, w, mask) })})
}

// textsOfPair is a call of a function of two words, and what it must return: a text, or a code.
type textsOfPair struct {
	u, v, want string
	code       int64
}

// checkTexts holds a function of two words against what it must return.
func checkTexts(t *testing.T, x impl.Alphabet, name string, call func(impl.Alphabet, []int64, []int64) ([]int64, int64), cases []textsOfPair) {
	t.Helper()
	for _, c := range cases {
		got, code := call(x, word(c.u), word(c.v))
		if code != c.code || !slices.Equal(got, word(c.want)) {
			t.Errorf("%s(%v, %q, %q) = %v, %d, and not %q, %d", name, x, c.u, c.v, got, code, c.want, c.code)
		}
	}
}

func TestExamplesOfResiduals(t *testing.T) {
	x := square()
	checkTexts(t, x, "Concatenate", impl.Concatenate, []textsOfPair{
		{"c", "ab", "acb", 0}, {"", "", "", 0}, {"ca", "", "ac", 0}, {"", "ca", "ac", 0}, {"b", "a", "ba", 0}, {"db", "db", "bbdd", 0},
	})
	checkTexts(t, x, "IsPrefix", answers(impl.IsPrefix), []textsOfPair{
		{"c", "acb", yes, 0}, {"a", "acb", yes, 0}, {"ca", "acb", yes, 0}, {"b", "acb", "", 0}, {"ab", "acb", "", 0}, {"cb", "acb", "", 0}, {"acbd", "acb", "", 0}, {"", "", yes, 0},
	})
	checkTexts(t, x, "LeftQuotient", impl.LeftQuotient, []textsOfPair{
		{"c", "acb", "ab", 0}, {"ca", "acb", "b", 0}, {"", "cab", "acb", 0}, {"cab", "acb", "", 0}, {"", "", "", 0}, {"b", "acb", "", no}, {"cc", "acb", "", no},
		{"acba", "acb", "", no}, {"a", "", "", no}, {"ab", "acb", "", no}, {"b", "acdb", "", no}, {"d", "acdb", "", no}, {"a", "bacb", "", no},
	})
	checkTexts(t, x, "RightQuotient", impl.RightQuotient, []textsOfPair{
		{"b", "acb", "ac", 0}, {"ab", "acb", "c", 0}, {"cb", "acb", "a", 0}, {"", "cab", "acb", 0}, {"cab", "acb", "", 0}, {"", "", "", 0}, {"bd", "acdb", "ac", 0},
		{"c", "acb", "", no}, {"a", "acb", "", no}, {"ac", "acb", "", no}, {"aacb", "acb", "", no}, {"b", "", "", no}, {"bb", "acb", "", no}, {"ca", "baca", "ba", 0},
	})
	checkTexts(t, x, "AreIndependent", answers(impl.AreIndependent), []textsOfPair{
		{"aa", "c", yes, 0}, {"aa", "ca", "", 0}, {"ac", "ac", "", 0}, {"", "", yes, 0}, {"", "abcd", yes, 0}, {"abcd", "", yes, 0}, {"a", "a", "", 0}, {"aaa", "cccb", "", 0}, {"bb", "ddd", yes, 0}, {"bc", "d", "", 0},
	})
	checkTexts(t, x, "MeetOf", impl.MeetOf, []textsOfPair{
		{"acb", "cad", "ac", 0}, {"a", "c", "", 0}, {"ab", "ba", "", 0}, {"ab", "cab", "a", 0}, {"acb", "cab", "acb", 0}, {"c", "acb", "c", 0}, {"acb", "a", "a", 0}, {"", "acb", "", 0},
		{"abab", "abba", "ab", 0}, {"cba", "ca", "c", 0}, {"aac", "acc", "ac", 0},
	})
	checkTexts(t, x, "JoinOf", impl.JoinOf, []textsOfPair{
		{"ab", "c", "", no}, {"a", "c", "ac", 0}, {"c", "a", "ac", 0}, {"acb", "cad", "acbd", 0}, {"ca", "cab", "acb", 0}, {"cab", "ca", "acb", 0}, {"", "ca", "ac", 0}, {"ca", "", "ac", 0},
		{"ab", "ba", "", no}, {"ab", "ad", "abd", 0}, {"ab", "ac", "", no}, {"aac", "acc", "aacc", 0},
	})
	checkTexts(t, x, "ResidualAfter", impl.ResidualAfter, []textsOfPair{
		{"ac", "cb", "", no}, {"ac", "cad", "d", 0}, {"cad", "ac", "", 0}, {"a", "c", "c", 0}, {"", "ca", "ac", 0}, {"ca", "", "", 0}, {"aac", "acc", "c", 0}, {"acc", "aac", "a", 0}, {"ab", "add", "dd", 0},
	})
	checkTexts(t, x, "FactorBefore", impl.FactorBefore, []textsOfPair{
		{"b", "acb", "ac", 0}, {"bb", "acb", "", no}, {"", "acb", "", 0}, {"cab", "acb", "", 0}, {"c", "acb", "", 0}, {"acba", "acb", "", no}, {"a", "", "", no}, {"", "", "", 0},
		{"a", "baba", "b", 0}, {"ba", "abba", "ab", 0}, {"ac", "bacbac", "b", 0}, {"bd", "abcbd", "abc", 0}, {"ca", "abc", "", no}, {"ab", "aab", "a", 0}, {"aab", "abaab", "ab", 0},
		{"ac", "aabc", "", no}, {"aa", "aaca", "", 0}, {"cb", "acabcb", "aa", 0},
	})
	four, code := impl.LeviOf(x, word("a"), word("cb"), word("c"), word("ab"))
	mustBeLists(t, "LeviOf", "a, cb, c, ab", four, code, words("", "a", "c", "b"))
	for mask, want := range map[int64]string{3: "a", 0: "", 1: "a", 2: "", 4: "c", 5: "ac", 6: "c", 7: "acba", 8: "", 13: "ac", 15: "acba"} {
		got, code := impl.PrefixIn(x, word("acba"), mask)
		mustBe(t, "PrefixIn", []int64{mask}, got, code, word(want))
	}
	got, code := impl.CommonContinuation(x, words("a", "c", "cad"))
	mustBe(t, "CommonContinuation", nil, got, code, word("acd"))
}

// mustBe reports an error unless a call returned the normal form of a trace and ErrNone, or if there
// is no trace a code alone.
func (d divisions) mustBe(t *testing.T, name string, arguments [][]int64, got []int64, code int64, want int, otherwise int64) {
	t.Helper()
	expected := otherwise
	if want >= 0 {
		expected = impl.ErrNone
	}
	if code != expected || !slices.Equal(got, d.normal(want)) {
		t.Errorf("%s(%v, %v) = %v, %d, and not %v, %d", name, d.x, arguments, got, code, d.normal(want), expected)
	}
}

// checkPair holds all functions of two words against the definitions, on all words of two traces.
func (d divisions) checkPair(t *testing.T, u, v int) {
	t.Helper()
	areIndependent := refAreIndependent(d.x, d.normal(u), d.normal(v))
	product, meet, join, before := d.product(u, v), d.meet(u, v), d.continuation(u, v), d.factorBefore(u, v)
	residual := -1
	if join >= 0 {
		residual = d.left[join][u]
	}
	for _, f := range d.classes[u] {
		for _, g := range d.classes[v] {
			both := [][]int64{f, g}
			got, code := impl.Concatenate(d.x, f, g)
			d.mustBe(t, "Concatenate", both, got, code, product, no)
			got, code = impl.LeftQuotient(d.x, f, g)
			d.mustBe(t, "LeftQuotient", both, got, code, d.left[v][u], no)
			got, code = impl.RightQuotient(d.x, f, g)
			d.mustBe(t, "RightQuotient", both, got, code, d.right[v][u], no)
			got, code = impl.MeetOf(d.x, f, g)
			d.mustBe(t, "MeetOf", both, got, code, meet, no)
			got, code = impl.JoinOf(d.x, f, g)
			d.mustBe(t, "JoinOf", both, got, code, join, no)
			got, code = impl.ResidualAfter(d.x, f, g)
			d.mustBe(t, "ResidualAfter", both, got, code, residual, no)
			got, code = impl.CommonContinuation(d.x, both)
			d.mustBe(t, "CommonContinuation", both, got, code, join, no)
			got, code = impl.FactorBefore(d.x, f, g)
			d.mustBe(t, "FactorBefore", both, got, code, before, no)
			is, code := impl.IsPrefix(d.x, f, g)
			if is != d.isPrefix(u, v) || code != impl.ErrNone {
				t.Errorf("IsPrefix(%v, %v, %v) = %v, %d", d.x, f, g, is, code)
			}
			is, code = impl.AreIndependent(d.x, f, g)
			if is != areIndependent || code != impl.ErrNone {
				t.Errorf("AreIndependent(%v, %v, %v) = %v, %d", d.x, f, g, is, code)
			}
		}
	}
}

// shortDivisions calls a function with the traces of all alphabets with up to 4 letters that have at
// most so many letters: lengths[n] for n letters of the alphabet.
func shortDivisions(t *testing.T, lengths [5]int, call func(d divisions, length int)) {
	t.Helper()
	for _, x := range smallAlphabets() {
		call(divisionsOf(t, x, lengths[x.Letters]), lengths[x.Letters])
	}
}

func TestPairsOfAllShortWords(t *testing.T) {
	shortDivisions(t, [5]int{1, 8, 7, 6, 4}, func(d divisions, length int) {
		for u := range d.classes {
			for v := range d.classes {
				if d.length(u)+d.length(v) <= length {
					d.checkPair(t, u, v)
				}
			}
		}
	})
}

func TestLargestPrefixesOfAllShortWords(t *testing.T) {
	shortDivisions(t, [5]int{1, 6, 6, 5, 4}, func(d divisions, length int) {
		for mask := range int64(1) << d.x.Letters {
			for v, class := range d.classes {
				want := d.prefixIn(v, mask)
				for _, w := range class {
					got, code := impl.PrefixIn(d.x, w, mask)
					d.mustBe(t, "PrefixIn", [][]int64{w, {mask}}, got, code, want, no)
				}
			}
		}
	})
}

func TestContinuationsOfAllShortWords(t *testing.T) {
	shortDivisions(t, [5]int{1, 6, 6, 5, 4}, func(d divisions, length int) {
		short := d.where(func(v int) bool { return 3*d.length(v) <= length+1 })
		for _, u := range short {
			got, code := impl.CommonContinuation(d.x, d.classes[u])
			d.mustBe(t, "CommonContinuation", d.classes[u], got, code, u, no)
			for _, v := range short {
				for _, w := range short {
					if d.length(u)+d.length(v)+d.length(w) > length {
						continue
					}
					// The last words of the traces, which are mostly not the normal forms.
					list := [][]int64{d.normal(u), d.classes[v][len(d.classes[v])-1], d.classes[w][len(d.classes[w])-1]}
					want := d.continuation(u, v, w)
					got, code := impl.CommonContinuation(d.x, list)
					d.mustBe(t, "CommonContinuation", list, got, code, want, no)
					list = append(list, list[1], nil, list[0])
					got, code = impl.CommonContinuation(d.x, list)
					d.mustBe(t, "CommonContinuation", list, got, code, want, no)
				}
			}
		}
	})
}

// factorisation is a pair of traces.
type factorisation struct{ u, v int }

// checkLevi holds LeviOf against the definition on two factorisations.
func (d divisions) checkLevi(t *testing.T, f, g factorisation) {
	t.Helper()
	// The greatest words of some traces, and the least ones of the others.
	u, v := d.normal(f.u), d.classes[f.v][len(d.classes[f.v])-1]
	y, z := d.classes[g.u][len(d.classes[g.u])-1], d.normal(g.v)
	got, code := impl.LeviOf(d.x, u, v, y, z)
	if d.product(f.u, f.v) != d.product(g.u, g.v) {
		mustFailLists(t, "LeviOf of "+key(d.x), [][]int64{u, v, y, z}, got, code, impl.ErrState)
		return
	}
	all := d.levi(f.u, f.v, g.u, g.v)
	if len(all) != 1 {
		t.Fatalf("%v and %v have %d common refinements", f, g, len(all))
	}
	var want [][]int64
	for _, w := range all[0] {
		want = append(want, d.normal(w))
	}
	if code != impl.ErrNone || !areEqualLists(got, want) {
		t.Errorf("LeviOf(%v, %v, %v, %v, %v) = %v, %d, and not %v", d.x, u, v, y, z, got, code, want)
	}
}

func TestFactorisationsOfAllShortWords(t *testing.T) {
	shortDivisions(t, [5]int{1, 6, 5, 4, 3}, func(d divisions, length int) {
		var all []factorisation
		for u := range d.classes {
			for v := range d.classes {
				if d.length(u)+d.length(v) <= length {
					all = append(all, factorisation{u, v})
				}
			}
		}
		for i, f := range all {
			for k, g := range all {
				// Of those with different products only some, as there are very many.
				if d.product(f.u, f.v) == d.product(g.u, g.v) || (i+k)%29 == 0 {
					d.checkLevi(t, f, g)
				}
			}
		}
	})
}

// among returns a word of letters of a list, as long as w, or the empty word if there are none.
func among(letters, w []int64) []int64 {
	var v []int64
	for _, a := range w {
		if len(letters) > 0 {
			v = append(v, letters[a%int64(len(letters))])
		}
	}
	return v
}

// independentOf returns the letters that are independent of all letters of u.
func independentOf(x impl.Alphabet, u []int64) []int64 {
	var letters []int64
	for a := range x.Letters {
		if refAreIndependent(x, u, []int64{a}) {
			letters = append(letters, a)
		}
	}
	return letters
}

// somePairs calls a function with alphabets and two words. Their traces have prefixes in common, and
// behind them they go on with some letters, every other time with such ones that are independent.
func somePairs(seed numbers, call func(x *numbers, y impl.Alphabet, u, v []int64)) {
	x := seed
	for i, y := range slices.Concat(testAlphabets(), testAlphabets()) {
		n := int(y.Letters)
		if n == 0 {
			continue
		}
		p := someWord(&x, n, x.below(20))
		q, s := someWord(&x, n, x.below(25-len(p))), someWord(&x, n, x.below(25-len(p)))
		if i%2 == 0 {
			q = among(someWord(&x, n, 2), q)
			s = among(independentOf(y, q), s)
		}
		u, v := slices.Concat(p, q), slices.Concat(p, s)
		if x.below(2) == 0 {
			u, v = v, u
		}
		call(&x, y, exchanged(&x, y, u, x.below(40)), exchanged(&x, y, v, x.below(40)))
	}
}

// mustBeOrFail reports an error unless a call returned this list and ErrNone, or another code alone.
func mustBeOrFail(t *testing.T, name string, arguments any, got []int64, code int64, want []int64, expected int64) {
	t.Helper()
	if expected != impl.ErrNone {
		want = nil
	}
	if code != expected || !slices.Equal(got, want) {
		t.Errorf("%s(%v) = %v, %d, and not %v, %d", name, arguments, got, code, want, expected)
	}
}

// codeIf returns ErrNone if something holds, and otherwise the code.
func codeIf(holds bool, code int64) int64 {
	if holds {
		return impl.ErrNone
	}
	return code
}

// checkLongPair holds the functions of two words against other ways to find the same, and returns
// the code for the join.
func checkLongPair(t *testing.T, x impl.Alphabet, u, v []int64) int64 {
	t.Helper()
	all := []any{x, u, v}
	rest := lessFirst(u, v)
	isPrefix := areProjectedPrefixes(x, u, v)
	is, code := impl.IsPrefix(x, u, v)
	mustReport(t, "IsPrefix", all, is, code, isPrefix)
	is, code = impl.AreIndependent(x, u, v)
	mustReport(t, "AreIndependent", all, is, code, refAreIndependent(x, u, v))
	got, code := impl.Concatenate(x, u, v)
	mustBeOrFail(t, "Concatenate", all, got, code, refExtreme(x, slices.Concat(u, v), 1), codeIf(len(u)+len(v) <= 24, impl.ErrLimit))
	got, code = impl.LeftQuotient(x, u, v)
	mustBeOrFail(t, "LeftQuotient", all, got, code, refExtreme(x, rest, 1), codeIf(isPrefix, no))
	isSuffix := areProjectedPrefixes(x, reversed(u), reversed(v))
	got, code = impl.RightQuotient(x, u, v)
	mustBeOrFail(t, "RightQuotient", all, got, code, refExtreme(x, reversed(lessFirst(u, reversed(v))), 1), codeIf(isSuffix, no))
	got, code = impl.MeetOf(x, u, v)
	mustBe(t, "MeetOf of "+key(all), nil, got, code, commonStart(x, u, v))
	expected := codeIf(areProjectedCompatible(x, u, v), no)
	if expected == impl.ErrNone && len(u)+len(rest) > 24 {
		expected = impl.ErrLimit
	}
	join := refExtreme(x, slices.Concat(u, rest), 1)
	got, code = impl.JoinOf(x, u, v)
	mustBeOrFail(t, "JoinOf", all, got, code, join, expected)
	got, code = impl.ResidualAfter(x, u, v)
	mustBeOrFail(t, "ResidualAfter", all, got, code, refExtreme(x, rest, 1), expected)
	got, code = impl.CommonContinuation(x, [][]int64{v, u, nil, v})
	mustBeOrFail(t, "CommonContinuation", all, got, code, join, expected)
	return expected
}

func TestPairsOfLongWords(t *testing.T) {
	codes := map[int64]int{}
	somePairs(50, func(x *numbers, y impl.Alphabet, u, v []int64) {
		codes[checkLongPair(t, y, u, v)]++
		codes[checkLongPair(t, y, v, u)]++
		checkLongPair(t, y, u, u)
		mask := int64(x.below(1 << y.Letters))
		got, code := impl.PrefixIn(y, u, mask)
		mustBe(t, "PrefixIn of "+key(y)+key(mask), u, got, code, startIn(y, u, mask))
	})
	if codes[impl.ErrNone] < 100 || codes[impl.ErrNotFound] < 100 || codes[impl.ErrLimit] < 100 {
		t.Errorf("the joins have the codes %v", codes)
	}
}

// someFactors calls a function with alphabets, three words, and a word of the product of their
// traces.
func someFactors(seed numbers, call func(x *numbers, y impl.Alphabet, p, u, s, w []int64)) {
	x := seed
	for _, y := range testAlphabets() {
		n := int(y.Letters)
		if n == 0 {
			continue
		}
		p := someWord(&x, n, x.below(13))
		u := someWord(&x, n, x.below(7))
		s := someWord(&x, n, x.below(25-len(p)-len(u)))
		call(&x, y, p, u, s, exchanged(&x, y, slices.Concat(p, u, s), x.below(60)))
	}
}

func TestFactorsOfLongWords(t *testing.T) {
	later, none := 0, 0
	someFactors(51, func(x *numbers, y impl.Alphabet, p, u, s, w []int64) {
		checkLongPair(t, y, p, w)
		checkLongPair(t, y, s, w)
		checkLongPair(t, y, exchanged(x, y, slices.Concat(u, s), 20), w)
		checkLongPair(t, y, exchanged(x, y, slices.Concat(p, u), 20), w)
		number, code := impl.CountPrefixes(y, w)
		if code != impl.ErrNone || number > 1000 {
			return
		}
		for _, f := range [][]int64{u, exchanged(x, y, u, 9), reversed(u), someWord(x, int(y.Letters), 2), p[:len(p)/2], s} {
			want, isFactor := leastBefore(y, f, w)
			got, code := impl.FactorBefore(y, f, w)
			mustBeOrFail(t, "FactorBefore", []any{y, f, w}, got, code, want, codeIf(isFactor, no))
			if !isFactor {
				none++
			} else if len(want) > 0 && len(f) > 1 {
				later++
			}
		}
	})
	if later < 200 || none < 200 {
		t.Errorf("there are %d factors with a letter before them, and %d words that are none", later, none)
	}
}

func TestFactorsInSeveralPlaces(t *testing.T) {
	wide := alphabetWith(antichain(8)...)
	apart := alphabetWith(3, 7, 6, 8) // a and c are independent, and d is independent of all
	cases := []struct {
		x          impl.Alphabet
		u, v, want string
		code       int64
	}{
		{wide, "hgfedcba", "hgfedcbahgfedcbahgfedcba", "", 0}, {wide, "aaabbbcccdddeeefffggghhh", "hgfedcbahgfedcbahgfedcba", "", 0},
		{wide, "aaaa", "hgfedcbahgfedcbahgfedcba", "", no}, {wide, "abcdefghh", "abcdefgh", "", no},
		{apart, "ac", "bacbacb", "b", 0}, {apart, "ac", "babcbac", "babcb", 0}, {apart, "bac", "babcbac", "babc", 0}, {apart, "acd", "abacdacd", "ab", 0},
		{apart, "ad", "babadd", "b", 0}, {apart, "dd", "babadd", "", 0}, {apart, "add", "bababdd", "b", 0}, {apart, "bc", "abcabc", "a", 0},
		{apart, "ca", "cbabcba", "", no}, {apart, "cba", "cbbacba", "cbba", 0}, {apart, "ac", "abcbabcb", "", no}, {apart, "aac", "abaac", "ab", 0},
		{apart, "cb", "acbccb", "a", 0}, {apart, "ccb", "accbccb", "a", 0}, {apart, "aabb", "ababaabb", "abab", 0}, {apart, "abd", "ddbaab", "ba", 0},
		{square(), "ac", "babcdacac", "babcd", 0}, {square(), "bdbd", "acbdacbbdd", "acbdac", 0}, {square(), "ab", "acabcab", "ac", 0},
		{alphabetWith(1), "aaa", "aaaaaaaaaaaaaaaaaaaaaaaa", "", 0}, {alphabetWith(complete(8)...), "hg", "ahhgahghg", "ah", 0},
		{alphabetWith(complete(8)...), "hghg", "ahhgahghg", "ahhga", 0}, {alphabetWith(complete(8)...), "hgg", "ahhgahghg", "", no},
	}
	for _, c := range cases {
		want, isFactor := leastBefore(c.x, word(c.u), word(c.v))
		if codeIf(isFactor, no) != c.code || isFactor && !slices.Equal(want, word(c.want)) {
			t.Errorf("before %q in %q of %v there is %v, %v", c.u, c.v, c.x, want, isFactor)
		}
		got, code := impl.FactorBefore(c.x, word(c.u), word(c.v))
		mustBeOrFail(t, "FactorBefore", []any{c.x, c.u, c.v}, got, code, word(c.want), c.code)
	}
}

// mustHave returns the trace that a function of two words returned, which must not have failed.
func mustHave(t *testing.T, call func(impl.Alphabet, []int64, []int64) ([]int64, int64), x impl.Alphabet, u, v []int64) []int64 {
	t.Helper()
	got, code := call(x, u, v)
	if code != impl.ErrNone {
		t.Fatalf("the code for %v, %v and %v is %d", x, u, v, code)
	}
	return got
}

// mustAgree reports an error unless two lists are equal.
func mustAgree(t *testing.T, arguments any, got, want []int64) {
	t.Helper()
	if !slices.Equal(got, want) {
		t.Errorf("for %v, there are %v and %v", arguments, got, want)
	}
}

func TestPromise5OnProducts(t *testing.T) {
	someFactors(52, func(x *numbers, y impl.Alphabet, p, u, s, w []int64) {
		all := []any{y, p, u, s, w}
		first, second := mustHave(t, impl.Concatenate, y, p, u), mustHave(t, impl.Concatenate, y, u, s)
		mustAgree(t, all, mustHave(t, impl.Concatenate, y, first, s), mustGive(t, y, w))
		mustAgree(t, all, mustHave(t, impl.Concatenate, y, p, second), mustGive(t, y, w))
		mustAgree(t, all, mustHave(t, impl.LeftQuotient, y, p, w), second)
		mustAgree(t, all, mustHave(t, impl.RightQuotient, y, s, w), first)
		mustAgree(t, all, mustHave(t, impl.LeftQuotient, y, p, first), mustGive(t, y, u))
		mustAgree(t, all, mustHave(t, impl.RightQuotient, y, s, second), mustGive(t, y, u))
		is, code := impl.IsPrefix(y, p, w)
		mustReport(t, "IsPrefix", all, is, code, true)
		mustAgree(t, all, mustHave(t, impl.MeetOf, y, p, w), mustGive(t, y, p))
		mustAgree(t, all, mustHave(t, impl.JoinOf, y, p, w), mustGive(t, y, w))
		mustAgree(t, all, mustHave(t, impl.ResidualAfter, y, p, w), second)
		mustAgree(t, all, mustHave(t, impl.ResidualAfter, y, w, p), nil)
		checkBefore(t, y, p, u, w)
	})
}

// checkBefore reports an error unless FactorBefore finds u in w, where the trace p may stand before
// it, and no trace before it that is longer than p, or no prefix of p.
func checkBefore(t *testing.T, x impl.Alphabet, p, u, w []int64) {
	t.Helper()
	before := mustHave(t, impl.FactorBefore, x, u, w)
	is, code := impl.IsPrefix(x, before, p)
	mustReport(t, "IsPrefix", []any{x, before, p, "FactorBefore", u, w}, is, code, true)
	is, code = impl.IsPrefix(x, u, mustHave(t, impl.LeftQuotient, x, before, w))
	mustReport(t, "IsPrefix", []any{x, u, "behind", before, w}, is, code, true)
}

func TestPromise5OnPairs(t *testing.T) {
	somePairs(53, func(x *numbers, y impl.Alphabet, u, v []int64) {
		all := []any{y, u, v}
		meet := mustHave(t, impl.MeetOf, y, u, v)
		mustAgree(t, all, mustHave(t, impl.MeetOf, y, v, u), meet)
		first, second := mustHave(t, impl.LeftQuotient, y, meet, u), mustHave(t, impl.LeftQuotient, y, meet, v)
		mustAgree(t, all, mustHave(t, impl.MeetOf, y, first, second), nil)
		join, code := impl.JoinOf(y, u, v)
		got, other := impl.JoinOf(y, v, u)
		mustBeOrFail(t, "JoinOf", all, got, other, join, code)
		are, independentCode := impl.AreIndependent(y, first, second)
		mustReport(t, "AreIndependent", []any{y, first, second}, are, independentCode, code != impl.ErrNotFound)
		got, other = impl.ResidualAfter(y, u, v)
		mustBeOrFail(t, "ResidualAfter", all, got, other, second, code)
		if code == impl.ErrNone {
			mustAgree(t, all, mustHave(t, impl.Concatenate, y, u, second), join)
			mustAgree(t, all, mustHave(t, impl.Concatenate, y, v, first), join)
			mustAgree(t, all, mustHave(t, impl.LeftQuotient, y, u, join), second)
			mustAgree(t, all, mustHave(t, continuationOfTwo, y, u, v), join)
		}
	})
}

// behindBoth returns the residual of the trace of w after that of u, and then after that of v behind
// u, and the code.
func behindBoth(x impl.Alphabet, u, v, w []int64) ([]int64, int64) {
	second, code := impl.ResidualAfter(x, u, v)
	if code != impl.ErrNone {
		return nil, code
	}
	rest, code := impl.ResidualAfter(x, u, w)
	if code != impl.ErrNone {
		return nil, code
	}
	return impl.ResidualAfter(x, second, rest)
}

func TestPromise5OnResiduals(t *testing.T) {
	found := 0
	somePairs(54, func(x *numbers, y impl.Alphabet, u, v []int64) {
		words := [][]int64{u[:len(u)/2], v[:len(v)/2]}
		free := independentOf(y, slices.Concat(words...))
		words = append(words, exchanged(x, y, slices.Concat(words[x.below(2)], among(free, someWord(x, int(y.Letters), 3))), 20))
		if x.below(2) == 0 {
			words[0], words[2] = words[2], words[0]
		}
		got, code := behindBoth(y, words[0], words[1], words[2])
		all, allCode := impl.CommonContinuation(y, words)
		if code == impl.ErrNone || allCode == impl.ErrNone {
			found++
			other, otherCode := behindBoth(y, words[1], words[0], words[2])
			mustBe(t, "residuals of "+key(words)+key(y), nil, other, otherCode, got)
			join := mustHave(t, impl.JoinOf, y, words[0], words[1])
			mustAgree(t, words, mustHave(t, impl.Concatenate, y, join, got), all)
			mustAgree(t, words, mustHave(t, impl.JoinOf, y, join, words[2]), all)
		}
		slices.Reverse(words)
		other, otherCode := impl.CommonContinuation(y, words)
		mustBeOrFail(t, "CommonContinuation", []any{y, words}, other, otherCode, all, allCode)
	})
	if found < 100 {
		t.Errorf("only %d times there are residuals", found)
	}
}

// someDownset returns a downset of the order of a trace: the pasts of some positions.
func someDownset(t *testing.T, x *numbers, y impl.Alphabet, w []int64) int64 {
	t.Helper()
	s := int64(0)
	for range x.below(4) {
		if len(w) > 0 {
			past, code := impl.PastOf(y, w, int64(x.below(len(w))))
			mustList(t, "PastOf", nil, code)
			s |= past
		}
	}
	return s
}

func TestPromise23(t *testing.T) {
	for seed := range numbers(4) {
		someTraces(60+seed, func(x *numbers, y impl.Alphabet, u, v []int64) {
			s := []int64{someDownset(t, x, y, u), someDownset(t, x, y, u), someDownset(t, x, y, u)}
			at := func(mask int64) []int64 {
				got, code := impl.PrefixAt(y, v, mask)
				return exchanged(x, y, mustList(t, "PrefixAt", got, code), 20)
			}
			meet := func(p, q []int64) []int64 { return mustHave(t, impl.MeetOf, y, p, q) }
			join := func(p, q []int64) []int64 { return mustHave(t, impl.JoinOf, y, p, q) }
			p, q, r := at(s[0]), at(s[1]), at(s[2])
			all := []any{y, u, s}
			mustAgree(t, all, meet(p, q), mustGive(t, y, at(s[0]&s[1])))
			mustAgree(t, all, join(p, q), mustGive(t, y, at(s[0]|s[1])))
			is, code := impl.IsPrefix(y, p, q)
			mustReport(t, "IsPrefix", all, is, code, s[0]&^s[1] == 0)
			mustAgree(t, all, meet(p, join(q, r)), join(meet(p, q), meet(p, r)))
			mustAgree(t, all, join(p, meet(q, r)), meet(join(p, q), join(p, r)))
			got, code := impl.CommonContinuation(y, [][]int64{p, q, r})
			mustBe(t, "CommonContinuation of "+key(all), nil, got, code, mustGive(t, y, at(s[0]|s[1]|s[2])))
		})
	}
}

// checkRefinement reports an error unless LeviOf returns for two factorisations of one trace what
// the document says of it.
func checkRefinement(t *testing.T, x impl.Alphabet, u, v, y, z []int64) {
	t.Helper()
	all := []any{x, u, v, y, z}
	four, code := impl.LeviOf(x, u, v, y, z)
	if code != impl.ErrNone || len(four) != 4 {
		t.Fatalf("LeviOf(%v) = %v, %d", all, four, code)
	}
	is, code := impl.AreIndependent(x, four[1], four[2])
	mustReport(t, "AreIndependent", []any{all, four}, is, code, true)
	mustAgree(t, all, mustHave(t, impl.Concatenate, x, four[0], four[1]), mustGive(t, x, u))
	mustAgree(t, all, mustHave(t, impl.Concatenate, x, four[2], four[3]), mustGive(t, x, v))
	mustAgree(t, all, mustHave(t, impl.Concatenate, x, four[0], four[2]), mustGive(t, x, y))
	mustAgree(t, all, mustHave(t, impl.Concatenate, x, four[1], four[3]), mustGive(t, x, z))
	for _, w := range four {
		mustAgree(t, all, w, mustGive(t, x, w))
	}
}

func TestPromise24(t *testing.T) {
	for seed := range numbers(3) {
		someTraces(70+seed, func(x *numbers, y impl.Alphabet, u, v []int64) {
			var parts [][]int64
			for _, w := range [][]int64{u, v} {
				s := someDownset(t, x, y, w)
				p, code := impl.PrefixAt(y, w, s)
				mustList(t, "PrefixAt", p, code)
				rest := mustHave(t, impl.LeftQuotient, y, p, w)
				parts = append(parts, exchanged(x, y, p, 20), exchanged(x, y, rest, 20))
			}
			checkRefinement(t, y, parts[0], parts[1], parts[2], parts[3])
		})
	}
}

func TestRefinementsOfLongWords(t *testing.T) {
	moved := 0
	for i, y := range testAlphabets() {
		x, n := numbers(80+i), int(y.Letters)
		if n == 0 {
			continue
		}
		p, s := someWord(&x, n, x.below(7)), someWord(&x, n, x.below(7))
		q := among(someWord(&x, n, 2), someWord(&x, n, x.below(7)))
		r := among(independentOf(y, q), someWord(&x, n, x.below(7)))
		mixed := func(first, second []int64) []int64 { return exchanged(&x, y, slices.Concat(first, second), 30) }
		four, code := impl.LeviOf(y, mixed(p, q), mixed(r, s), mixed(p, r), mixed(q, s))
		want := [][]int64{mustGive(t, y, p), mustGive(t, y, q), mustGive(t, y, r), mustGive(t, y, s)}
		mustBeLists(t, "LeviOf of "+key(y), want, four, code, want)
		if len(q) > 0 && len(r) > 0 {
			moved++
		}
		if len(q) == 0 || len(r)+len(s) == 0 {
			continue
		}
		// With one letter less, or another one, the products differ.
		shorter := slices.Concat(p, r, q, s)[1:]
		got, code := impl.LeviOf(y, mixed(p, q), mixed(r, s), shorter, nil)
		mustFailLists(t, "LeviOf", shorter, got, code, impl.ErrState)
		if n > 1 {
			other := mixed(q, s)
			other[0] = (other[0] + 1) % int64(n)
			got, code = impl.LeviOf(y, mixed(p, r), other, mixed(p, q), mixed(r, s))
			mustFailLists(t, "LeviOf", other, got, code, impl.ErrState)
		}
	}
	if moved < 100 {
		t.Errorf("only in %d cases letters are exchanged", moved)
	}
}

// times returns the text of so many letters.
func times(n int, letter string) string {
	text := ""
	for range n {
		text += letter
	}
	return text
}

func TestLimitOfProducts(t *testing.T) {
	limit := int64(impl.ErrLimit)
	checkTexts(t, alphabetWith(1), "Concatenate", impl.Concatenate, []textsOfPair{
		{times(12, "a"), times(12, "a"), times(24, "a"), 0}, {times(24, "a"), "", times(24, "a"), 0}, {"", times(24, "a"), times(24, "a"), 0},
		{times(23, "a"), "a", times(24, "a"), 0}, {"a", times(24, "a"), "", limit}, {times(24, "a"), "a", "", limit}, {times(13, "a"), times(12, "a"), "", limit},
		{times(24, "a"), times(24, "a"), "", limit},
	})
	wide, narrow := alphabetWith(antichain(8)...), alphabetWith(complete(8)...)
	all, half := "hgfedcbahgfedcbahgfedcba", "hgfedcbahgfe"
	checkTexts(t, wide, "Concatenate", impl.Concatenate, []textsOfPair{
		{all[:8], all[8:], "aaabbbcccdddeeefffggghhh", 0}, {all, "", "aaabbbcccdddeeefffggghhh", 0}, {all[:9], all[8:], "", limit}, {all, "h", "", limit},
	})
	checkTexts(t, narrow, "Concatenate", impl.Concatenate, []textsOfPair{{half, half, half + half, 0}, {half, "a" + half, "", limit}})
}

func TestLimitOfJoins(t *testing.T) {
	apart := alphabetWith(3, 3, 4, 24, 24) // a and b depend on each other, d and e do, and c depends on none
	limit := int64(impl.ErrLimit)
	cases := []textsOfPair{
		{times(12, "a"), times(12, "c"), times(12, "a") + times(12, "c"), 0}, {times(12, "a"), times(13, "c"), "", limit},
		{times(24, "a"), times(24, "a"), times(24, "a"), 0}, {times(24, "a"), times(23, "a"), times(24, "a"), 0}, {times(23, "a"), times(24, "a"), times(24, "a"), 0},
		{times(23, "a"), "c" + times(23, "a"), times(23, "a") + "c", 0}, {times(24, "a"), "c", "", limit}, {"c", times(24, "a"), "", limit}, {"c", times(23, "a"), times(23, "a") + "c", 0},
		{times(24, "a"), times(24, "d"), "", limit}, {times(24, "a"), "", times(24, "a"), 0}, {"", times(24, "a"), times(24, "a"), 0},
		// Those that are not compatible do not come to the limit.
		{times(24, "a"), times(24, "b"), "", no}, {times(23, "c") + "a", times(23, "d") + "b", "", no}, {"a" + times(23, "c"), "b" + times(23, "d"), "", no},
		{times(12, "a") + times(12, "d"), times(12, "a") + times(12, "e"), "", no}, {times(23, "a") + "d", times(23, "c") + "e", "", no},
		{times(23, "a") + "b", times(24, "a"), "", no}, {times(20, "a") + times(4, "c"), times(20, "a") + times(4, "d"), "", limit},
		{times(20, "a") + "cc", times(20, "a") + "dd", times(20, "a") + "ccdd", 0}, {times(20, "a") + "cc", times(20, "a") + "ddd", "", limit},
	}
	checkTexts(t, apart, "JoinOf", impl.JoinOf, cases)
	checkTexts(t, apart, "CommonContinuation", continuationOfTwo, cases)
	for _, c := range cases {
		got, code := impl.ResidualAfter(apart, word(c.u), word(c.v))
		mustBeOrFail(t, "ResidualAfter", c, got, code, refExtreme(apart, lessFirst(word(c.u), word(c.v)), 1), c.code)
	}
}

func TestWordsOfMaxWordLetters(t *testing.T) {
	wide, narrow := alphabetWith(antichain(8)...), alphabetWith(complete(8)...)
	all, sorted := "hgfedcbahgfedcbahgfedcba", "aaabbbcccdddeeefffggghhh"
	checkTexts(t, wide, "MeetOf", impl.MeetOf, []textsOfPair{{all, sorted, sorted, 0}, {all, times(24, "h"), "hhh", 0}, {all, "", "", 0}, {times(24, "a"), times(24, "b"), "", 0}})
	checkTexts(t, narrow, "MeetOf", impl.MeetOf, []textsOfPair{{all, all, all, 0}, {all, all[:23] + "b", all[:23], 0}, {all, sorted, "", 0}, {all, all[:12] + all[:12], all[:12], 0}})
	checkTexts(t, wide, "LeftQuotient", impl.LeftQuotient, []textsOfPair{{all, sorted, "", 0}, {"", all, sorted, 0}, {all[:16], all, "abcdefgh", 0}, {"aaaa", all, "", no}, {all, all[1:], "", no}})
	checkTexts(t, narrow, "LeftQuotient", impl.LeftQuotient, []textsOfPair{{all, all, "", 0}, {"", all, all, 0}, {all[:10], all, all[10:], 0}, {all[1:], all, "", no}, {all, all[:23], "", no}})
	checkTexts(t, wide, "RightQuotient", impl.RightQuotient, []textsOfPair{{all, sorted, "", 0}, {all[:16], all, "abcdefgh", 0}, {"hhhh", all, "", no}})
	checkTexts(t, narrow, "RightQuotient", impl.RightQuotient, []textsOfPair{{all, all, "", 0}, {all[10:], all, all[:10], 0}, {all[:10], all, "", no}, {all[8:], all, all[:8], 0}})
	checkTexts(t, wide, "JoinOf", impl.JoinOf, []textsOfPair{{all, sorted, sorted, 0}, {"aaabbbcccddd", "hhhgggfffeee", sorted, 0}, {"aaabbbcccdddh", "hhhgggfffeee", sorted, 0}})
	checkTexts(t, narrow, "JoinOf", impl.JoinOf, []textsOfPair{{all, all, all, 0}, {all[:1], all, all, 0}, {all, all[:23], all, 0}, {all, all[:23] + "b", "", no}, {all, "a", "", no}})
	checkTexts(t, narrow, "FactorBefore", impl.FactorBefore, []textsOfPair{
		{all, all, "", 0}, {all[8:], all, "", 0}, {all[7:23], all, all[:7], 0}, {"ah", all, all[:7], 0}, {"bahgf", all, all[:6], 0}, {"aah", all, "", no}, {all[7:] + "h", all, "", no},
	})
	four, code := impl.LeviOf(wide, word(all[:12]), word(all[12:]), word(sorted[:12]), word(sorted[12:]))
	mustBeLists(t, "LeviOf", all, four, code, words("abcd", "eeffgghh", "aabbccdd", "efgh"))
	four, code = impl.LeviOf(narrow, word(all[:8]), word(all[8:]), word(all[:20]), word(all[20:]))
	mustBeLists(t, "LeviOf", all, four, code, words(all[:8], "", all[8:20], all[20:]))
	four, code = impl.LeviOf(narrow, word(all), nil, nil, word(all))
	mustBeLists(t, "LeviOf", all, four, code, words("", all, "", ""))
}

func TestErrorsOfLeviOf(t *testing.T) {
	x := square()
	long, one := times(24, "a"), "a"
	cases := []struct {
		u, v, y, z string
		code       int64
	}{
		{"", "", "", "", 0}, {"", "ca", "ca", "", 0}, {"ac", "", "", "ca", 0}, {long, "", "", long, 0}, {long[:12], long[12:], long[:1], long[1:], 0},
		{"a", "b", "b", "a", impl.ErrState}, {"a", "", "", "", impl.ErrState}, {"", "", "", "a", impl.ErrState}, {"a", "b", "ab", "a", impl.ErrState}, {"ab", "c", "ac", "b", impl.ErrState},
		{"a", "a", "a", "c", impl.ErrState}, {long, "", long[1:], "", impl.ErrState}, {long, "", long[1:], "c", impl.ErrState}, {"", "", long, "", impl.ErrState},
		// Products with too many letters come first, whether they are equal or not.
		{long, one, long, one, impl.ErrLimit}, {long, one, one, long, impl.ErrLimit}, {long, one, "", "", impl.ErrLimit}, {"", "", long, one, impl.ErrLimit}, {"b", long, long, "b", impl.ErrLimit},
		{"", long, one, long, impl.ErrLimit}, {long[:13], long[:12], "c", "d", impl.ErrLimit}, {"c", "d", long[:13], long[:12], impl.ErrLimit}, {long, long, long, long, impl.ErrLimit},
	}
	for _, c := range cases {
		got, code := impl.LeviOf(x, word(c.u), word(c.v), word(c.y), word(c.z))
		if c.code != impl.ErrNone {
			mustFailLists(t, "LeviOf", c, got, code, c.code)
		} else {
			checkRefinement(t, x, word(c.u), word(c.v), word(c.y), word(c.z))
		}
	}
	// A word that is none comes before both.
	for _, none := range notWords(4) {
		for i := range 4 {
			list := words(long, long, "b", "a")
			list[i] = none
			got, code := impl.LeviOf(x, list[0], list[1], list[2], list[3])
			mustFailLists(t, "LeviOf", i, got, code, impl.ErrRange)
			got, code = impl.LeviOf(alphabetWith(11, 7, 14, 5), list[0], list[1], list[2], list[3])
			mustFailLists(t, "LeviOf", i, got, code, impl.ErrInvalid)
		}
	}
}

func TestContinuationsOfManyWords(t *testing.T) {
	apart := alphabetWith(3, 3, 4, 24, 24) // a and b depend on each other, d and e do, and c depends on none
	wide := alphabetWith(antichain(8)...)
	many := func(n int, texts ...string) [][]int64 {
		list := words(texts...)
		return append(list, slices.Repeat(words("a"), n-len(texts))...)
	}
	long := func(letter string) string { return times(24, letter) }
	cases := []struct {
		x    impl.Alphabet
		list [][]int64
		want string
		code int64
	}{
		{apart, nil, "", 0}, {apart, [][]int64{}, "", 0}, {apart, words(""), "", 0}, {apart, [][]int64{nil, nil}, "", 0}, {apart, words("ca"), "ac", 0}, {apart, words(long("e")), long("e"), 0},
		{apart, words("a", "c", "d"), "acd", 0}, {apart, words("d", "c", "a", "d"), "acd", 0}, {apart, words("ab", "ad", "c", "ab"), "abcd", 0}, {apart, many(24), "a", 0},
		{apart, many(24, "c", "d", "c", "ab"), "abcd", 0}, {apart, many(24, long("a")), long("a"), 0}, {impl.Alphabet{}, nil, "", 0}, {impl.Alphabet{}, make([][]int64, 24), "", 0},
		{wide, words("aaa", "bbb", "ccc", "ddd", "eee", "fff", "ggg", "hhh"), "aaabbbcccdddeeefffggghhh", 0}, {wide, words("aaa", "bbb", "ccc", "ddd", "eee", "fff", "ggg", "hhhh"), "", impl.ErrLimit},
		{wide, words("hgfedcba", "hgfedcbahgfedcba", "hgfedcbahgfedcbahgfedcba"), "aaabbbcccdddeeefffggghhh", 0}, {wide, words("hgfedcba", "aaabbbcccdddeeefffgggh", "hh", "hhh"), "aaabbbcccdddeeefffggghhh", 0},
		{wide, words(long("a"), long("b"), long("c"), long("d"), long("e"), long("f"), long("g"), long("h")), "", impl.ErrLimit},
		{apart, words(times(12, "a"), times(11, "c"), "d"), times(12, "a") + times(11, "c") + "d", 0}, {apart, words(times(12, "a"), times(12, "c"), "d"), "", impl.ErrLimit},
		{apart, words("a", "b"), "", no}, {apart, words("a", "c", "b"), "", no}, {apart, words("a", "d", "c", "ca", "e"), "", no}, {apart, many(24, "c", "d", "ab", "ba"), "", no},
		// Whether there is a continuation is told for all words, however long it would be.
		{apart, words(long("a"), long("c"), "b"), "", no}, {apart, words(long("a"), long("c"), "d", "e"), "", no}, {apart, words(long("a"), long("c"), long("d"), long("d")+""), "", impl.ErrLimit},
		{apart, words(long("a"), long("b"), long("c")), "", no}, {apart, words(long("c"), long("a"), times(23, "d")+"b"), "", no}, {apart, words(long("c"), long("a"), times(23, "a")+"b"), "", no},
		{apart, words(long("c"), times(23, "a")+"b", times(23, "a")+"c"), "", impl.ErrLimit},
		{apart, many(25), "", impl.ErrRange}, {apart, many(25, "c", "d"), "", impl.ErrRange}, {apart, many(25, "b"), "", impl.ErrRange}, {apart, many(25, long("a"), long("c")), "", impl.ErrRange},
		{apart, make([][]int64, 25), "", impl.ErrRange}, {apart, make([][]int64, 100000), "", impl.ErrRange}, {impl.Alphabet{}, make([][]int64, 25), "", impl.ErrRange}, {apart, append(words("a", "b"), []int64{5}), "", impl.ErrRange},
		{apart, append(words(long("a"), long("c")), []int64{-1}), "", impl.ErrRange}, {apart, append(many(24), []int64{5}), "", impl.ErrRange}, {apart, append([][]int64{make([]int64, 25)}, many(23)...), "", impl.ErrRange},
		{alphabetWith(1, 3), many(25), "", impl.ErrInvalid}, {alphabetWith(1, 3), make([][]int64, 100000), "", impl.ErrInvalid}, {alphabetWith(1, 3), [][]int64{{9}}, "", impl.ErrInvalid}, {alphabetWith(1, 3), nil, "", impl.ErrInvalid},
	}
	for i, c := range cases {
		got, code := impl.CommonContinuation(c.x, c.list)
		mustBeOrFail(t, "CommonContinuation", i, got, code, word(c.want), c.code)
	}
}

func TestLetterSetsOfPrefixes(t *testing.T) {
	for _, x := range slices.Concat(evenAlphabets(), smallAlphabets()) {
		all := int64(1)<<x.Letters - 1
		w := []int64{}
		for a := range x.Letters {
			w = append(w, x.Letters-1-a, a)
		}
		got, code := impl.PrefixIn(x, w, all)
		mustBe(t, "PrefixIn of "+key(x), w, got, code, refExtreme(x, w, 1))
		got, code = impl.PrefixIn(x, w, 0)
		mustBe(t, "PrefixIn of "+key(x), w, got, code, nil)
		got, code = impl.PrefixIn(x, nil, all)
		mustBe(t, "PrefixIn of "+key(x), nil, got, code, nil)
		for _, mask := range noMasks(int(x.Letters)) {
			got, code = impl.PrefixIn(x, w, mask)
			mustFail(t, "PrefixIn of "+key(mask), w, got, code, impl.ErrRange)
			got, code = impl.PrefixIn(x, []int64{x.Letters}, mask)
			mustFail(t, "PrefixIn of "+key(mask), w, got, code, impl.ErrRange)
			got, code = impl.PrefixIn(impl.Alphabet{Letters: x.Letters + 1, Depends: x.Depends}, w, mask)
			mustFail(t, "PrefixIn of "+key(mask), w, got, code, impl.ErrInvalid)
		}
	}
}

func TestResidualsOfEmptyWords(t *testing.T) {
	for _, x := range slices.Concat(evenAlphabets(), smallAlphabets(), []impl.Alphabet{{Depends: []int64{}}}) {
		for _, w := range [][]int64{nil, {}} {
			for _, f := range pairCalls() {
				got, code := f.call(x, w, nil)
				if f.name == "IsPrefix" || f.name == "AreIndependent" {
					mustBe(t, f.name, nil, got, code, []int64{1})
				} else {
					mustBe(t, f.name, nil, got, code, nil)
				}
			}
			four, code := impl.LeviOf(x, w, nil, w, nil)
			mustBeLists(t, "LeviOf", nil, four, code, [][]int64{nil, nil, nil, nil})
		}
	}
}

func TestInvalidAlphabetsOfResiduals(t *testing.T) {
	// ErrInvalid comes before ErrRange, before ErrLimit and before the other errors.
	lists := [][]int64{nil, {0}, {0, 0}, {1}, {-1}, {8}, make([]int64, 24), make([]int64, 25), word("hgfedcbahgfedcbahgfedcba")}
	for _, x := range notAlphabets() {
		for _, w := range lists {
			for _, f := range slices.Concat(residualCalls(nil, 0), residualCalls(w, -1), residualCalls([]int64{0}, 1), residualCalls(make([]int64, 24), math.MaxInt64)) {
				got, code := f.call(x, w)
				mustFailLists(t, f.name, x.Depends[:min(len(x.Depends), 9)], got, code, impl.ErrInvalid)
			}
		}
	}
}

func TestWordsThatAreRefusedForResiduals(t *testing.T) {
	// ErrRange comes before ErrLimit and before the other errors, whichever word is none.
	for _, x := range []impl.Alphabet{{}, alphabetWith(1), square(), alphabetWith(antichain(8)...), alphabetWith(complete(8)...)} {
		for _, w := range notWords(x.Letters) {
			for _, v := range [][]int64{nil, {0}, {1}, make([]int64, 24), word("hgfedcbahgfedcbahgfedcba"), w} {
				for _, f := range residualCalls(v, 0) {
					got, code := f.call(x, w)
					mustFailLists(t, f.name, w[:min(len(w), 30)], got, code, impl.ErrRange)
				}
			}
		}
	}
}

func TestResidualsOfLongWordsAreFast(t *testing.T) {
	wide, narrow := alphabetWith(antichain(8)...), alphabetWith(complete(8)...)
	path := alphabetWhere(8, func(i, k int) bool { return k-i == 1 })
	texts := []string{"hgfedcbahgfedcbahgfedcba", "aaabbbcccdddeeefffggghhh", times(24, "a"), times(24, "h"), times(12, "ab"), "ahbhchdhehfhghah", "hh", "aa", "h", ""}
	for _, x := range []impl.Alphabet{wide, narrow, path, groups(true, 4, 4), groups(false, 2, 2, 2, 2)} {
		for _, text := range texts {
			for _, other := range texts {
				for _, f := range residualCalls(word(other), 170) {
					within(t, f.name, func() { f.call(x, word(text)) })
				}
			}
		}
		list := slices.Repeat(words(texts[:3]...), 8)
		within(t, "CommonContinuation", func() { impl.CommonContinuation(x, list) })
		within(t, "CommonContinuation", func() { impl.CommonContinuation(x, make([][]int64, 1000000)) })
	}
}

// checkFresh reports an error if a call changes or shares an argument, as areKept tells, keeps a
// result, or returns lists that share memory.
func checkFresh(t *testing.T, name string, areKept func() bool, call func() ([][]int64, int64)) {
	t.Helper()
	got, code := call()
	want, wantCode := call()
	for i := range got {
		if code != wantCode || !areEqualLists(got[i:], want[i:]) {
			t.Errorf("%s = %v, %d, or its lists share memory", name, got, code)
		}
		scribble(got[i])
	}
	clear(got[:cap(got)])
	if again, _ := call(); !areEqualLists(again, want) || !areKept() {
		t.Fatalf("%s changes or shares an argument, or keeps a result", name)
	}
}

// checkMemory does this with functions of a word and another one, which calls returns for this one.
// The words are all pairs of words of the square with some texts.
func checkMemory(t *testing.T, texts []string, calls func(v []int64) []wordCall) {
	t.Helper()
	checkMemoryOfLists(t, words(texts...), calls)
}

// checkMemoryOfLists does this with all pairs of some lists.
func checkMemoryOfLists(t *testing.T, lists [][]int64, calls func(v []int64) []wordCall) {
	t.Helper()
	for _, list := range lists {
		for _, other := range lists {
			depends, isDependsKept := spacious(square().Depends)
			x := impl.Alphabet{Letters: 4, Depends: depends}
			w, isKept := spacious(list)
			v, isOtherKept := spacious(other)
			areKept := func() bool { return isDependsKept() && isKept() && isOtherKept() }
			for _, f := range calls(v) {
				checkFresh(t, f.name+" of "+key(list)+" and "+key(other), areKept, func() ([][]int64, int64) { return f.call(x, w) })
			}
		}
	}
}

func TestResidualsShareNoMemory(t *testing.T) {
	texts := []string{"", "a", "ca", "cabd", "acacbdbd", "aacc", "abcdabcd"}
	checkMemory(t, texts, func(v []int64) []wordCall { return residualCalls(v, 5) })
}

func TestRefinementsShareNoMemory(t *testing.T) {
	var list [][]int64
	var checks []func() bool
	for _, text := range []string{"acb", "cd", "ca", "bcd"} {
		w, isKept := spacious(word(text))
		list, checks = append(list, w), append(checks, isKept)
	}
	want := words("ac", "b", "", "cd")
	got, code := impl.LeviOf(square(), list[0], list[1], list[2], list[3])
	mustBeLists(t, "LeviOf", nil, got, code, want)
	for i := range got {
		scribble(got[i])
		if !areEqualLists(got[i+1:], want[i+1:]) {
			t.Errorf("the lists of LeviOf share memory")
		}
	}
	scribble(got[:cap(got)]...)
	if slices.ContainsFunc(checks, func(isKept func() bool) bool { return !isKept() }) {
		t.Errorf("LeviOf changes or shares an argument")
	}
	room := append(slices.Clone(list[:1]), list[2], nil, nil)
	first, code := impl.CommonContinuation(square(), room[:2])
	mustBe(t, "CommonContinuation", nil, first, code, word("acb"))
	scribble(first)
	second, code := impl.CommonContinuation(square(), room[:2])
	mustBe(t, "CommonContinuation", nil, second, code, word("acb"))
	if room[2] != nil || room[3] != nil || !areEqualLists(room[:2], words("acb", "ca")) || !checks[0]() || !checks[2]() {
		t.Errorf("CommonContinuation changes or shares an argument")
	}
}
