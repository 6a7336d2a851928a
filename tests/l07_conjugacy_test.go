package tests

import (
	"math"
	"math/big"
	"slices"
	"testing"

	"loop.example/g01094/impl"
)

// rootCall turns RootOf into a function to lists, none if root and exponent are the zero values.
func rootCall(x impl.Alphabet, w []int64) ([][]int64, int64) {
	root, k, code := impl.RootOf(x, w)
	if len(root) == 0 && k == 0 {
		return nil, code
	}
	return [][]int64{root, {k}}, code
}

// conjugacyPairCalls returns the functions that are given two words.
func conjugacyPairCalls() []twoWords {
	return []twoWords{
		{"AreCommuting", answers(impl.AreCommuting)}, {"RotateBy", impl.RotateBy}, {"AreConjugate", answers(impl.AreConjugate)}, {"ConjugatorOf", impl.ConjugatorOf},
	}
}

// conjugateCalls returns the functions that find the conjugates of a word, and are given v besides if
// they need two words.
func conjugateCalls(v []int64) []wordCall {
	return []wordCall{
		{"ConjugatesOf", impl.ConjugatesOf}, {"CyclicForm", oneList(impl.CyclicForm)}, {"IsLyndon", oneAnswer(impl.IsLyndon)},
		{"AreConjugate", oneAnswer(func(x impl.Alphabet, w []int64) (bool, int64) { return impl.AreConjugate(x, w, v) })},
		{"ConjugatorOf", oneList(func(x impl.Alphabet, w []int64) ([]int64, int64) { return impl.ConjugatorOf(x, w, v) })},
	}
}

// conjugacyCalls returns the functions of chapter 7 as functions of an alphabet and of each one of
// their words, with v as their other word and k as the exponent.
func conjugacyCalls(v []int64, k int64) []wordCall {
	list := append(conjugateCalls(v),
		wordCall{"TraceComponents", impl.TraceComponents}, wordCall{"IsConnectedTrace", oneAnswer(impl.IsConnectedTrace)},
		wordCall{"PowerOf", oneList(func(x impl.Alphabet, w []int64) ([]int64, int64) { return impl.PowerOf(x, w, k) })},
		wordCall{"RootOf", rootCall}, wordCall{"IsPrimitive", oneAnswer(impl.IsPrimitive)}, wordCall{"TransposesOf", impl.TransposesOf})
	for _, f := range conjugacyPairCalls() {
		list = append(list,
			wordCall{f.name, oneList(func(x impl.Alphabet, w []int64) ([]int64, int64) { return f.call(x, w, v) })},
			wordCall{f.name, oneList(func(x impl.Alphabet, w []int64) ([]int64, int64) { return f.call(x, v, w) })})
	}
	return list
}

func TestExamplesOfConjugacy(t *testing.T) {
	x := square()
	got, code := impl.TraceComponents(x, word("acca"))
	mustBeLists(t, "TraceComponents", "acca", got, code, words("aa", "cc"))
	power, code := impl.PowerOf(x, word("ac"), 2)
	mustBe(t, "PowerOf", word("ac"), power, code, word("aacc"))
	got, code = rootCall(x, word("acac"))
	mustBeLists(t, "RootOf", "acac", got, code, [][]int64{{0, 2}, {2}})
	checkTexts(t, x, "AreCommuting", answers(impl.AreCommuting), []textsOfPair{{"ac", "aacc", yes, 0}, {"ab", "c", "", 0}})
	checkTexts(t, x, "RotateBy", impl.RotateBy, []textsOfPair{
		{"abc", "ab", "acb", 0}, {"abc", "b", "", impl.ErrState}, {"abc", "", "abc", 0}, {"ca", "", "ac", 0}, {"ca", "ca", "ac", 0}, {"acb", "c", "abc", 0}, {"acb", "cab", "acb", 0},
		{"acb", "acb", "acb", 0}, {"acb", "cba", "", impl.ErrState}, {"abc", "aa", "", impl.ErrState}, {"abc", "d", "", impl.ErrState}, {"abc", "abd", "", impl.ErrState}, {"abc", "abcabcabc", "abc", 0},
		{"ab", "abab", "ab", 0}, {"ab", "aba", "ba", 0}, {"", "", "", 0}, {"", "a", "", impl.ErrState}, {"a", times(24, "a"), "a", 0}, {"a", times(23, "a") + "b", "", impl.ErrState}, {"acb", "abc", "", impl.ErrState},
	})
	got, code = impl.ConjugatesOf(x, word("ab"))
	mustBeLists(t, "ConjugatesOf", "ab", got, code, words("ab", "ba"))
	checkTexts(t, x, "AreConjugate", answers(impl.AreConjugate), []textsOfPair{
		{"abc", "acb", yes, 0}, {"ab", "ba", yes, 0}, {"ca", "ac", yes, 0}, {"ab", "ac", "", 0}, {"aabb", "abab", "", 0}, {"", "", yes, 0}, {"", "a", "", 0}, {"a", "", "", 0}, {"a", "aa", "", 0}, {"aa", "a", "", 0},
		{"acbd", "bdac", yes, 0}, {"acbd", "abcd", "", 0}, {"abcd", "badc", "", 0},
	})
	checkTexts(t, x, "ConjugatorOf", impl.ConjugatorOf, []textsOfPair{
		{"abc", "acb", "ab", 0}, {"ab", "ac", "", no}, {"ab", "ab", "", 0}, {"ca", "ac", "", 0}, {"", "", "", 0}, {"", "a", "", no}, {"a", "", "", no}, {"a", "aa", "", no}, {"ab", "ba", "a", 0}, {"ba", "ab", "b", 0},
		// Both a and c must leave, in any order, and both b and d.
		{"acbd", "bdac", "ac", 0}, {"bdac", "acbd", "bd", 0}, {"aacc", "aacc", "", 0}, {"aabb", "abab", "", no}, {"acbd", "dcab", "acb", 0}, {"acbd", "abcd", "", no},
	})
	number, code := impl.CountLyndon(x, 2)
	mustBeNumber(t, "CountLyndon", 2, number, code, 4)
}

// shortTurns calls a function with the traces of all alphabets with up to 4 letters that have at most
// so many letters: lengths[n] for n letters of the alphabet.
func shortTurns(t *testing.T, lengths [5]int, call func(d turns, length int)) {
	t.Helper()
	for _, x := range smallAlphabets() {
		call(turnsOf(t, x, lengths[x.Letters]), lengths[x.Letters])
	}
}

// isLyndon tells by the definition whether a trace with these components, exponent and conjugates is
// a Lyndon trace.
func isLyndon(normal []int64, components [][]int64, exponent int, conjugates [][]int64) bool {
	return len(components) == 1 && exponent == 1 && slices.Equal(conjugates[0], normal)
}

// checkTurn holds the functions of one word against the definitions on all words of a trace.
func (d turns) checkTurn(t *testing.T, v, root, exponent int) {
	t.Helper()
	components := refTraceComponents(d.x, d.normal(v))
	transposes, conjugates := d.transposes(v), d.normals(d.conjugates(v))
	for _, w := range d.classes[v] {
		shown := []any{d.x, w}
		got, code := impl.TraceComponents(d.x, w)
		mustBeLists(t, "TraceComponents", shown, got, code, components)
		is, code := impl.IsConnectedTrace(d.x, w)
		mustReport(t, "IsConnectedTrace", shown, is, code, len(components) == 1)
		got, code = rootCall(d.x, w)
		if len(w) == 0 {
			mustFailLists(t, "RootOf", shown, got, code, impl.ErrState)
		} else {
			mustBeLists(t, "RootOf", shown, got, code, [][]int64{d.normal(root), {int64(exponent)}})
		}
		is, code = impl.IsPrimitive(d.x, w)
		mustReport(t, "IsPrimitive", shown, is, code, exponent == 1)
		got, code = impl.TransposesOf(d.x, w)
		mustBeLists(t, "TransposesOf", shown, got, code, transposes)
		got, code = impl.ConjugatesOf(d.x, w)
		mustBeLists(t, "ConjugatesOf", shown, got, code, conjugates)
		form, code := impl.CyclicForm(d.x, w)
		mustBe(t, "CyclicForm of "+key(d.x), w, form, code, conjugates[0])
		is, code = impl.IsLyndon(d.x, w)
		mustReport(t, "IsLyndon", shown, is, code, isLyndon(d.normal(v), components, exponent, conjugates))
	}
}

func TestTurnsOfAllShortWords(t *testing.T) {
	shortTurns(t, [5]int{1, 8, 8, 6, 4}, func(d turns, length int) {
		roots, exponents := d.roots(t, length)
		for v := range d.classes {
			d.checkTurn(t, v, roots[v], exponents[v])
		}
	})
}

// checkRotations holds RotateBy against the definition on all words of a trace.
func (d turns) checkRotations(t *testing.T, v int, letters []int64) {
	t.Helper()
	to := v
	for _, a := range letters {
		if to >= 0 {
			to = d.rotated[to][a]
		}
	}
	for _, w := range d.classes[v] {
		got, code := impl.RotateBy(d.x, w, letters)
		d.mustBe(t, "RotateBy", [][]int64{w, letters}, got, code, to, impl.ErrState)
	}
}

func TestRotationsOfAllShortWords(t *testing.T) {
	shortTurns(t, [5]int{1, 5, 5, 4, 3}, func(d turns, length int) {
		for _, letters := range wordsUpTo(int(d.x.Letters), length) {
			for v := range d.classes {
				d.checkRotations(t, v, letters)
			}
		}
	})
}

func TestPowersOfAllShortWords(t *testing.T) {
	shortTurns(t, [5]int{1, 8, 8, 6, 4}, func(d turns, length int) {
		for v, class := range d.classes {
			for k := 0; k == 0 || d.length(v) > 0 && k*d.length(v) <= length; k++ {
				want := d.number[refWordText(slices.Repeat(d.normal(v), k))]
				for _, w := range class {
					got, code := impl.PowerOf(d.x, w, int64(k))
					d.mustBe(t, "PowerOf "+key(k), [][]int64{w}, got, code, want, no)
				}
			}
		}
	})
}

func TestCommutingShortWords(t *testing.T) {
	commuting := 0
	shortTurns(t, [5]int{1, 8, 7, 6, 4}, func(d turns, length int) {
		for u := range d.classes {
			for v := range d.classes {
				if d.length(u)+d.length(v) > length {
					continue
				}
				want := d.product(u, v) == d.product(v, u)
				if want {
					commuting++
				}
				for _, f := range d.classes[u] {
					for _, g := range d.classes[v] {
						is, code := impl.AreCommuting(d.x, f, g)
						mustReport(t, "AreCommuting", []any{d.x, f, g}, is, code, want)
					}
				}
			}
		}
	})
	if commuting < 1000 {
		t.Errorf("only %d pairs commute", commuting)
	}
}

// checkConjugators holds the functions of two words against the definitions on a trace and another
// one, to which the first word z of conjugators leads if there is one.
func (d turns) checkConjugators(t *testing.T, u, v int, z []int64, areConjugate bool) {
	t.Helper()
	// The last words of the traces, which are mostly not the normal forms.
	f, g := d.classes[u][len(d.classes[u])-1], d.classes[v][len(d.classes[v])-1]
	is, code := impl.AreConjugate(d.x, f, g)
	mustReport(t, "AreConjugate", []any{d.x, f, g}, is, code, areConjugate)
	got, code := impl.ConjugatorOf(d.x, f, g)
	mustBeOrFail(t, "ConjugatorOf", []any{d.x, f, g}, got, code, z, codeIf(areConjugate, no))
}

func TestConjugatorsOfAllShortWords(t *testing.T) {
	moved := 0
	shortTurns(t, [5]int{1, 7, 7, 5, 4}, func(d turns, length int) {
		for u := range d.classes {
			conjugators := d.conjugators(u)
			content := key(refContent(d.x, d.normal(u)))
			for v := range d.classes {
				// Of those with different contents only some, as there are very many.
				z, areConjugate := conjugators[v]
				if areConjugate || (u+v)%97 == 0 || d.length(u) == d.length(v) && key(refContent(d.x, d.normal(v))) == content {
					d.checkConjugators(t, u, v, z, areConjugate)
				}
				if len(z) > d.length(u) {
					moved++
				}
			}
		}
	})
	if moved < 100 {
		t.Errorf("only %d conjugators have more letters than the word", moved)
	}
}

func TestConjugatorsOfAllWords(t *testing.T) {
	shortTurns(t, [5]int{1, 4, 4, 4, 3}, func(d turns, length int) {
		for u, class := range d.classes {
			for v, z := range d.conjugators(u) {
				for _, f := range class {
					for _, g := range d.classes[v] {
						is, code := impl.AreConjugate(d.x, f, g)
						mustReport(t, "AreConjugate", []any{d.x, f, g}, is, code, true)
						got, code := impl.ConjugatorOf(d.x, f, g)
						mustBeOrFail(t, "ConjugatorOf", []any{d.x, f, g}, got, code, z, impl.ErrNone)
					}
				}
			}
		}
	})
}

func TestShortTransposesAndConjugates(t *testing.T) {
	// Each transpose is a conjugate, and transposes of transposes are all conjugates, but the
	// transposes alone need not be.
	found := 0
	shortTurns(t, [5]int{1, 5, 5, 5, 4}, func(d turns, length int) {
		for v := range d.classes {
			reached := [][]int64{d.normal(v)}
			for i := 0; i < len(reached); i++ {
				list, code := impl.TransposesOf(d.x, reached[i])
				mustList(t, "TransposesOf", nil, code)
				if i == 0 && len(list) < len(d.conjugates(v)) {
					found++
				}
				for _, w := range list {
					if !slices.ContainsFunc(reached, func(u []int64) bool { return slices.Equal(u, w) }) {
						reached = append(reached, w)
					}
				}
			}
			got, code := impl.ConjugatesOf(d.x, d.normal(v))
			mustBeLists(t, "ConjugatesOf", []any{d.x, d.normal(v)}, got, code, distinct(reached))
		}
	})
	if found < 100 {
		t.Errorf("only %d traces have conjugates that are no transposes", found)
	}
}

func TestShortConjugatesHaveSomeFactor(t *testing.T) {
	// Traces are conjugate exactly if some z makes the product of u and z that of z and v.
	shortTurns(t, [5]int{1, 8, 7, 6, 4}, func(d turns, length int) {
		for u := range d.classes {
			for v := range d.classes {
				if d.length(u) != d.length(v) || d.length(u) > 3 {
					continue
				}
				is, code := impl.AreConjugate(d.x, d.normal(u), d.normal(v))
				fits := func(z int) bool {
					return d.length(u)+d.length(z) <= length && d.product(u, z) == d.product(z, v)
				}
				if len(d.where(fits)) > 0 {
					mustReport(t, "AreConjugate", []any{d.x, d.normal(u), d.normal(v)}, is, code, true)
				}
				if is {
					z, code := impl.ConjugatorOf(d.x, d.normal(u), d.normal(v))
					zv := refExtreme(d.x, slices.Concat(z, d.normal(v)), 1)
					mustBe(t, "the product of u and ConjugatorOf", z, refExtreme(d.x, slices.Concat(d.normal(u), z), 1), code, zv)
				}
			}
		}
	})
}

// checkRoot holds the functions of powers and roots against other ways to find the same, and returns
// the exponent.
func checkRoot(t *testing.T, x impl.Alphabet, w []int64) int64 {
	t.Helper()
	root, k := refRoot(x, w)
	got, code := rootCall(x, w)
	mustBeLists(t, "RootOf", []any{x, w}, got, code, [][]int64{root, {k}})
	is, code := impl.IsPrimitive(x, w)
	mustReport(t, "IsPrimitive", []any{x, w}, is, code, k == 1)
	power, code := impl.PowerOf(x, root, k)
	mustBe(t, "PowerOf of "+key(x)+key(k), root, power, code, refExtreme(x, w, 1))
	return k
}

func TestRootsOfLongWords(t *testing.T) {
	found := map[int64]int{}
	x := numbers(101)
	for _, y := range testAlphabets() {
		if y.Letters == 0 {
			continue
		}
		for _, k := range []int{1, 2, 3, 4, 6, 8, 12, 24} {
			for _, letters := range []int{24 / k, 1 + x.below(24/k)} {
				w := slices.Repeat(someWord(&x, int(y.Letters), letters), k)
				exponent := checkRoot(t, y, exchanged(&x, y, w, x.below(80)))
				if len(w) == 24 {
					found[exponent]++
				}
				if k > 1 { // with one letter changed, or two exchanged, it may have another root
					i, j := x.below(len(w)), x.below(len(w))
					w[i], w[j] = w[j], w[i]
					checkRoot(t, y, w)
					w[i] = int64(x.below(int(y.Letters)))
					checkRoot(t, y, w)
				}
			}
		}
	}
	for _, k := range []int64{1, 2, 3, 4, 6, 8, 12, 24} {
		if found[k] < 50 {
			t.Errorf("only %d words of 24 letters have the exponent %d", found[k], k)
		}
	}
}

func TestRootsOfComponents(t *testing.T) {
	pairs, wide, narrow, path := groups(true, 2, 2, 2, 2), alphabetWith(antichain(8)...), alphabetWith(complete(8)...), evenAlphabets()[11]
	cases := []struct {
		x       impl.Alphabet
		w, root string
		k       int64
	}{
		{square(), "acac", "ac", 2}, {square(), "aacc", "ac", 2}, {square(), "aac", "", 1}, {square(), "aaccc", "", 1}, {square(), "aacccc", "acc", 2}, {square(), "a", "", 1}, {square(), "aaaa", "a", 4},
		{square(), "caacca", "ac", 3}, {square(), "cabcab", "acb", 2}, {square(), "acbcab", "acb", 2}, {square(), "abab", "ab", 2}, {square(), "abba", "", 1}, {square(), "dbacbdca", "bdac", 2}, {square(), "bdacacbd", "", 1},
		{square(), "acbdcadb", "acbd", 2}, {square(), "bdacbdca", "bdac", 2},
		// Each component is a power: their exponents have a common divisor or not.
		{pairs, "ababcdcdcdcd", "abcdcd", 2}, {pairs, "cdcdababcdcd", "abcdcd", 2}, {pairs, "ababcdcdcd", "", 1}, {pairs, "abababcdcdcdcdcdcd", "abcdcd", 3},
		{pairs, "ababababcdcdcdcdcdcd", "ababcdcdcd", 2}, {pairs, "aabbccddeeffgghh", "", 1}, {pairs, "aaccgghhgh", "", 1}, {pairs, "aacchhgghhgg", "achhgg", 2}, {pairs, "aacchhgghgg", "", 1},
		{pairs, "aaaaccccccg", "", 1}, {pairs, "aaaaccccccgggggggg", "aacccgggg", 2}, {pairs, "aaaaaacccccccccggg", "aacccg", 3}, {pairs, "aaaaaaccccccccccccccc", "aaccccc", 3},
		{wide, "hgfedcbahgfedcbahgfedcba", "abcdefgh", 3}, {wide, "hgfedcba", "", 1}, {wide, times(12, "ba"), "ab", 12}, {wide, times(18, "b") + times(6, "a"), "abbb", 6}, {wide, times(16, "b") + times(8, "h"), "bbh", 8},
		{wide, times(14, "a") + times(10, "b"), "aaaaaaabbbbb", 2}, {wide, times(23, "a") + "b", "", 1}, {wide, times(20, "h") + times(4, "a"), "ahhhhh", 4}, {wide, times(15, "a") + times(9, "c"), "aaaaaccc", 3},
		{narrow, times(12, "hg"), "hg", 12}, {narrow, times(8, "hgh"), "hgh", 8}, {narrow, times(6, "hggh"), "hggh", 6}, {narrow, times(4, "hgfedc"), "hgfedc", 4}, {narrow, times(3, "hgfedcba"), "hgfedcba", 3},
		{narrow, times(2, "hgfedcbahgfe"), "hgfedcbahgfe", 2}, {narrow, times(11, "hg") + "gh", "", 1}, {narrow, times(24, "h"), "h", 24}, {alphabetWith(1), times(24, "a"), "a", 24}, {alphabetWith(1), times(23, "a"), "a", 23},
		{path, times(3, "hgfedcba"), "hgfedcba", 3}, {path, times(3, "bacedgfh"), "bacedgfh", 3}, {path, times(12, "ah"), "ah", 12}, {path, "acacegegaceg", "aceg", 3},
	}
	for _, c := range cases {
		if c.k == 1 { // where the root is the trace itself
			c.root = c.w
		}
		got, code := rootCall(c.x, word(c.w))
		mustBeLists(t, "RootOf", c.w, got, code, [][]int64{refExtreme(c.x, word(c.root), 1), {c.k}})
		checkRoot(t, c.x, word(c.w))
	}
}

func TestComponents(t *testing.T) {
	wide, narrow, pairs, twice := alphabetWith(antichain(8)...), alphabetWith(complete(8)...), groups(true, 2, 2, 2, 2), evenAlphabets()[14]
	apart := alphabetWhere(8, func(i, k int) bool { return k-i == 4 }) // a and e, b and f, c and g, d and h
	cases := []struct {
		x    impl.Alphabet
		w    string
		want [][]int64
	}{
		{square(), "", nil}, {square(), "a", words("a")}, {square(), "ca", words("a", "c")}, {square(), "acca", words("aa", "cc")}, {square(), "cab", words("acb")}, {square(), "dbdb", words("bb", "dd")}, {square(), "dcba", words("dcba")},
		{wide, "hgfedcbahgfedcbahgfedcba", words("aaa", "bbb", "ccc", "ddd", "eee", "fff", "ggg", "hhh")}, {wide, "hahb", words("a", "b", "hh")}, {narrow, "hgfedcbahgfedcbahgfedcba", words("hgfedcbahgfedcbahgfedcba")},
		{narrow, "hh", words("hh")}, {pairs, "hgfedcbahgfedcbahgfedcba", words("bababa", "dcdcdc", "fefefe", "hghghg")}, {pairs, "gcea", words("a", "c", "e", "g")},
		// The letters of the components interleave: they come in the order of their least letters that occur.
		{apart, "hgfedcba", words("ea", "fb", "gc", "hd")}, {apart, "hdgfbe", words("fb", "hd", "e", "g")}, {apart, "ebf", words("bf", "e")}, {apart, "aebf", words("ae", "bf")}, {apart, "hea", words("ea", "h")},
		{apart, "edhf", words("dh", "e", "f")}, {apart, "hgca", words("a", "gc", "h")}, {twice, "hgfedcba", words("dcba", "hgfe")}, {impl.Alphabet{}, "", nil}, {alphabetWith(1), times(24, "a"), words(times(24, "a"))},
	}
	for _, c := range cases {
		want := refTraceComponents(c.x, word(c.w))
		if len(c.want) > 0 && !areEqualLists(want, c.want) {
			t.Errorf("the components of %s are %v, and not %v", c.w, want, c.want)
		}
		got, code := impl.TraceComponents(c.x, word(c.w))
		mustBeLists(t, "TraceComponents", c.w, got, code, want)
		is, code := impl.IsConnectedTrace(c.x, word(c.w))
		mustReport(t, "IsConnectedTrace", c.w, is, code, len(want) == 1)
	}
}

func TestPowersAndTheirLimit(t *testing.T) {
	wide, narrow, one := alphabetWith(antichain(8)...), alphabetWith(complete(8)...), alphabetWith(1)
	all, limit := "hgfedcbahgfedcbahgfedcba", int64(impl.ErrLimit)
	cases := []struct {
		x    impl.Alphabet
		w    string
		k    int64
		want string
		code int64
	}{
		{square(), "ca", 0, "", 0}, {square(), "ca", 1, "ac", 0}, {square(), "ca", 12, times(12, "a") + times(12, "c"), 0}, {square(), "ca", 13, "", limit}, {square(), "ca", 24, "", limit}, {square(), "cab", 2, "acbacb", 0},
		{square(), "cab", 8, times(8, "acb"), 0}, {square(), "cab", 9, "", limit}, {square(), "", 0, "", 0}, {square(), "", 1, "", 0}, {square(), "", 24, "", 0}, {impl.Alphabet{}, "", 24, "", 0}, {one, "a", 24, times(24, "a"), 0},
		{one, "aa", 12, times(24, "a"), 0}, {one, "aa", 13, "", limit}, {one, times(24, "a"), 0, "", 0}, {one, times(24, "a"), 1, times(24, "a"), 0}, {one, times(24, "a"), 2, "", limit}, {one, times(24, "a"), 24, "", limit},
		{one, times(5, "a"), 4, times(20, "a"), 0}, {one, times(5, "a"), 5, "", limit}, {one, times(13, "a"), 2, "", limit}, {one, times(12, "a"), 2, times(24, "a"), 0},
		{wide, all[:8], 3, "aaabbbcccdddeeefffggghhh", 0}, {wide, all[:8], 4, "", limit}, {wide, all, 1, "aaabbbcccdddeeefffggghhh", 0}, {wide, all, 0, "", 0}, {wide, all, 2, "", limit}, {narrow, all[:12], 2, all[:12] + all[:12], 0},
		{narrow, all[:8], 3, all, 0}, {narrow, all[:9], 3, "", limit}, {narrow, all, 1, all, 0}, {narrow, all, 0, "", 0}, {narrow, all, 24, "", limit},
	}
	for _, c := range cases {
		got, code := impl.PowerOf(c.x, word(c.w), c.k)
		mustBeOrFail(t, "PowerOf "+key(c.k), c.w, got, code, word(c.want), c.code)
	}
	// An exponent that is none comes before too many letters, and a word that is none with it.
	for _, x := range []impl.Alphabet{{}, one, square(), wide, narrow} {
		for _, k := range []int64{-1, -24, 25, 26, 1 << 32, 1<<32 + 1, math.MaxInt64, math.MinInt64} {
			for _, w := range [][]int64{nil, make([]int64, 1), make([]int64, 24), make([]int64, 25), {8}} {
				got, code := impl.PowerOf(x, w, k)
				mustFail(t, "PowerOf "+key(k), w, got, code, impl.ErrRange)
			}
		}
	}
}

// powersOf returns a word of the product of powers of some components, each with an exponent below a
// limit, and the letters of v behind it.
func powersOf(x *numbers, components [][]int64, below int, v []int64) []int64 {
	var w []int64
	for _, c := range components {
		w = append(w, slices.Repeat(c, x.below(below))...)
	}
	return append(w, v...)
}

// checkCommuting holds AreCommuting against the pair projections, and returns whether they commute.
func checkCommuting(t *testing.T, x impl.Alphabet, u, v []int64) bool {
	t.Helper()
	want := areEqualLists(refPairProjections(x, slices.Concat(u, v)), refPairProjections(x, slices.Concat(v, u)))
	for _, both := range [][2][]int64{{u, v}, {v, u}} {
		is, code := impl.AreCommuting(x, both[0], both[1])
		mustReport(t, "AreCommuting", []any{x, both}, is, code, want)
	}
	return want
}

func TestCommutingLongWords(t *testing.T) {
	found, together := [2]int{}, 0
	x := numbers(102)
	for i, y := range slices.Concat(testAlphabets(), testAlphabets(), testAlphabets()) {
		n := int(y.Letters)
		if n == 0 {
			continue
		}
		components := refTraceComponents(y, someWord(&x, n, 1+x.below(6)))
		u, v := powersOf(&x, components, 5, nil), powersOf(&x, components, 5, nil)
		free := independentOf(y, slices.Concat(components...))
		u = append(u, among(free, someWord(&x, n, 2))...)
		if i%3 == 0 { // mostly too much for them to commute
			v = append(v, someWord(&x, n, 1+x.below(3))...)
		}
		if len(u) > 24 || len(v) > 24 {
			continue
		}
		commute := checkCommuting(t, y, exchanged(&x, y, u, x.below(60)), exchanged(&x, y, v, x.below(60)))
		if commute {
			found[1]++
		} else {
			found[0]++
		}
		if commute && len(u)+len(v) > 24 {
			together++
		}
	}
	if found[0] < 100 || found[1] < 400 || together < 20 {
		t.Errorf("%v pairs do not commute, and do; %d of these have more than MaxWord letters together", found, together)
	}
}

func TestPairsThatCommute(t *testing.T) {
	wide, narrow, pairs := alphabetWith(antichain(8)...), alphabetWith(complete(8)...), groups(true, 2, 2, 2, 2)
	all := "hgfedcbahgfedcbahgfedcba"
	checkTexts(t, square(), "AreCommuting", answers(impl.AreCommuting), []textsOfPair{
		{"", "", yes, 0}, {"", "abcd", yes, 0}, {"abcd", "", yes, 0}, {"a", "a", yes, 0}, {"a", "c", yes, 0}, {"a", "b", "", 0}, {"aac", "acccc", yes, 0}, {"abab", "ab", yes, 0}, {"abab", "ba", "", 0}, {"acb", "c", "", 0},
		{"acbacb", "cab", yes, 0}, {"acbcab", "cbacba", "", 0}, {"bd", "bbbd", yes, 0}, {"bd", "ac", "", 0}, {times(24, "a"), times(24, "c"), yes, 0}, {times(24, "a"), times(24, "a"), yes, 0}, {times(24, "a"), times(24, "b"), "", 0},
		{times(12, "ab"), times(8, "ab"), yes, 0}, {times(12, "ab"), times(12, "ba"), "", 0}, {times(23, "a") + "c", times(23, "c") + "a", yes, 0}, {times(23, "a") + "b", times(24, "a"), "", 0},
	})
	checkTexts(t, pairs, "AreCommuting", answers(impl.AreCommuting), []textsOfPair{
		// Some components agree up to powers, and others are independent of everything.
		{"ababcd", "abcdcdcd", yes, 0}, {"ababcd", "abcddc", "", 0}, {"abef", "ababgh", yes, 0}, {"abef", "bagh", "", 0}, {"abcde", "hhhh", yes, 0}, {"abcdef", "fe", "", 0}, {"abcd", "cdab", yes, 0}, {"abcd", "bacd", "", 0},
		{"abcdefgh", "hg", "", 0}, {"abcdefgh", "ghghefab", yes, 0}, {times(6, "abcd"), times(6, "ghcd"), yes, 0}, {times(6, "abcd"), times(6, "ghdc"), "", 0}, {times(6, "aceg"), times(3, "gecaacca"), yes, 0},
	})
	checkTexts(t, wide, "AreCommuting", answers(impl.AreCommuting), []textsOfPair{{all, all, yes, 0}, {all, times(24, "a"), yes, 0}, {"h", all, yes, 0}})
	checkTexts(t, narrow, "AreCommuting", answers(impl.AreCommuting), []textsOfPair{{all, all, yes, 0}, {all, all[:8], yes, 0}, {all, all[:16], yes, 0}, {all, all[:9], "", 0}, {all, all[1:], "", 0}, {all, "h", "", 0}})
}

func TestRotationsOfLongWords(t *testing.T) {
	codes := map[int64]int{}
	x := numbers(103)
	for _, y := range slices.Concat(testAlphabets(), testAlphabets()) {
		n := int(y.Letters)
		if n == 0 {
			continue
		}
		w := exchanged(&x, y, someWord(&x, n, 1+x.below(24)), 20)
		var letters []int64
		for current, left := w, x.below(25); left > 0; left-- {
			starts := startLetters(y, current)
			a := starts[x.below(len(starts))]
			letters, current = append(letters, a), append(lessFirst([]int64{a}, current), a)
		}
		if len(letters) > 0 && x.below(3) == 0 {
			letters[x.below(len(letters))] = int64(x.below(n))
		}
		want := refRotate(y, w, letters)
		got, code := impl.RotateBy(y, w, letters)
		mustBeOrFail(t, "RotateBy", []any{y, w, letters}, got, code, want, codeIf(want != nil, impl.ErrState))
		codes[code]++
	}
	if codes[impl.ErrNone] < 400 || codes[impl.ErrState] < 50 {
		t.Errorf("the rotations have the codes %v", codes)
	}
}

func TestTransposesOfLongWords(t *testing.T) {
	found, fewer := 0, 0
	someTraces(104, func(x *numbers, y impl.Alphabet, u, v []int64) {
		prefixes, code := impl.CountPrefixes(y, u)
		if code != impl.ErrNone || prefixes > 300 {
			return
		}
		want := refTransposes(y, u)
		got, code := impl.TransposesOf(y, v)
		mustBeLists(t, "TransposesOf", []any{y, v}, got, code, want)
		if len(want) > 20 {
			found++
		}
		if len(u) > 0 && len(want) < int(prefixes)-1 { // the first and the last prefix always give the same
			fewer++
		}
	})
	if found < 50 || fewer < 50 {
		t.Errorf("only %d traces have many transposes, and %d have some in more than one way", found, fewer)
	}
}

func TestTransposesOfAboutMaxFamily(t *testing.T) {
	on := alphabetWhere(7, func(i, k int) bool { return k == 6 }) // g depends on all others
	cases := []struct {
		x        impl.Alphabet
		text     string
		prefixes int64
	}{
		{alphabetWith(1, 2, 4, 8, 80, 96, 112), "gfaaceccaccebddecafb", 4095}, {alphabetWith(antichain(6)...), "fedcbafedcbafedcba", 4096}, {alphabetWith(antichain(6)...), "aaaaaaabbbbbbbcccccccdef", 4096},
		{on, "aaabbbcccdddeeefff", 4096}, {on, "aaabbbcccdddeeefffg", 4097}, {on, "gfedcbafedcbafedcba", 4097}, {alphabetWith(antichain(8)...), "aaabbbcccdddeeefffggghhh", 65536}, {on, "abcdefgabcdefgabcdefg", 193},
		{groups(true, 1, 1, 1, 1, 1), "aaaabbbbccccdddddeeeee", 4500}, {alphabetWith(antichain(8)...), "abcdefghabcdefgh", 6561},
	}
	for _, c := range cases {
		w := word(c.text)
		prefixes, code := impl.CountPrefixes(c.x, w)
		mustBeNumber(t, "CountPrefixes", c.text, prefixes, code, c.prefixes)
		got, code := impl.TransposesOf(c.x, w)
		if prefixes > impl.MaxFamily {
			mustFailLists(t, "TransposesOf", c.text, got, code, impl.ErrLimit)
		} else {
			mustBeLists(t, "TransposesOf", c.text, got, code, refTransposes(c.x, w))
		}
	}
}

func TestTransposesThatComeOfSeveralPrefixes(t *testing.T) {
	x := square()
	cases := []struct {
		w          string
		transposes [][]int64
		conjugates int64
	}{
		{"", words(""), 1}, {"aa", words("aa"), 1}, {"ac", words("ac"), 1}, {"aacc", words("aacc"), 1}, {"abab", words("abab", "baba"), 2}, {"ab", words("ab", "ba"), 2}, {"acb", words("abc", "acb", "bac", "cba"), 4},
		{"bac", words("abc", "acb", "bac", "cba"), 4}, {"abcd", words("abcd", "bcda", "cdab", "dabc"), 4}, {"acbd", words("abdc", "acbd", "bacd", "bdac", "cbda", "dacb"), 6},
		// Between abc and cba there is a transpose of both, but they are not transposes of each other.
		{"abc", words("abc", "acb", "bac"), 4}, {"cba", words("acb", "bac", "cba"), 4},
	}
	for _, c := range cases {
		got, code := impl.TransposesOf(x, word(c.w))
		mustBeLists(t, "TransposesOf", c.w, got, code, c.transposes)
		got, code = impl.ConjugatesOf(x, word(c.w))
		mustBeNumber(t, "the number of ConjugatesOf", c.w, int64(len(got)), code, c.conjugates)
	}
}

// checkConjugates holds the functions of conjugates against going back, on a word with the conjugates
// that r has and some other words.
func checkConjugates(t *testing.T, r roundabout, w []int64, others [][]int64) {
	t.Helper()
	got, code := impl.ConjugatesOf(r.x, w)
	mustBeLists(t, "ConjugatesOf", []any{r.x, w}, got, code, r.normals)
	form, code := impl.CyclicForm(r.x, w)
	mustBe(t, "CyclicForm of "+key(r.x), w, form, code, r.normals[0])
	_, k := refRoot(r.x, w)
	for _, v := range append(others, w) {
		normal := refExtreme(r.x, v, 1)
		_, areConjugate := r.distance[refWordText(normal)]
		is, code := impl.AreConjugate(r.x, w, v)
		mustReport(t, "AreConjugate", []any{r.x, w, v}, is, code, areConjugate)
		if !areConjugate {
			z, code := impl.ConjugatorOf(r.x, w, v)
			mustFail(t, "ConjugatorOf of "+key(r.x)+key(v), w, z, code, no)
			continue
		}
		is, code = impl.IsLyndon(r.x, v)
		mustReport(t, "IsLyndon", []any{r.x, v}, is, code, isLyndon(normal, refTraceComponents(r.x, v), int(k), r.normals))
		want := r.conjugatorFrom(v)
		z, code := impl.ConjugatorOf(r.x, v, w)
		mustBeOrFail(t, "ConjugatorOf", []any{r.x, v, w}, z, code, want, codeIf(len(want) <= 24, impl.ErrLimit))
	}
}

// turned returns a word of a trace to which some rotations lead.
func turned(x *numbers, y impl.Alphabet, w []int64, times int) []int64 {
	for range times {
		starts := startLetters(y, w)
		a := starts[x.below(len(starts))]
		w = append(lessFirst([]int64{a}, w), a)
	}
	return exchanged(x, y, w, times)
}

func TestConjugatesOfLongWords(t *testing.T) {
	found := 0
	someTraces(105, func(x *numbers, y impl.Alphabet, u, v []int64) {
		r, ok := roundaboutOf(y, u, 200)
		if !ok || len(u) == 0 {
			return
		}
		w := slices.Clone(u)
		i, k := x.below(len(u)), x.below(len(u))
		w[i], w[k] = w[k], w[i]
		others := [][]int64{turned(x, y, u, 1+x.below(30)), turned(x, y, u, 1+x.below(9)), w, r.normals[0], r.normals[len(r.normals)-1], u[1:], someWord(x, int(y.Letters), len(u)), nil}
		checkConjugates(t, r, v, others)
		if len(r.normals) > 20 {
			found++
		}
	})
	if found < 50 {
		t.Errorf("only %d traces have many conjugates", found)
	}
}

// manyConjugates is a word and the number of conjugates of its trace, 0 if it is great.
type manyConjugates struct {
	x    impl.Alphabet
	text string
	size int
}

// aboutMaxClass returns words whose traces have about MaxClass conjugates, or many of them.
func aboutMaxClass() []manyConjugates {
	star := alphabetWhere(8, func(i, k int) bool { return k == 7 }) // h depends on all others
	pairs := groups(true, 2, 2, 2, 2)
	return []manyConjugates{
		{alphabetWith(5, 10, 85, 42, 20, 40, 68), "efaaggbfbdcbdbffbebb", 999}, {alphabetWith(3, 23, 6, 24, 26), "aadcaacdccccadecebdcccda", 1001},
		// With one h, each other letter has one place more than letters.
		{star, "aaaabbbbccccdefh", 1000}, {star, "aaabbbcccdddeeefffgggh", 0},
		// Those of several components have one conjugate for each choice of conjugates of these.
		{alphabetWith(3, 3, 36, 40, 48, 60), "aaaaaaabccccddddeeeef", 1000}, {pairs, "aaaaabcccccdeeeeefgggggh", 1296}, {pairs, "aaabbbcccdddeeefffggghhh", 1296}, {pairs, "abababcdcdcdefefefghghgh", 16},
		// A power has as many conjugates as its root. No root of 12 letters is known that has more.
		{star, "aabbccddefghaabbccddefgh", 648},
	}
}

func TestConjugatesOfAboutMaxClass(t *testing.T) {
	x := numbers(106)
	for _, c := range aboutMaxClass() {
		w := word(c.text)
		r, ok := roundaboutOf(c.x, w, 1300)
		if ok != (c.size > 0) || ok && len(r.normals) != c.size {
			t.Errorf("%v, %s has %d conjugates, and not %d", c.x, c.text, len(r.normals), c.size)
		}
		if ok && len(r.normals) <= impl.MaxClass {
			last := r.normals[len(r.normals)-1]
			checkConjugates(t, r, exchanged(&x, c.x, w, 50), [][]int64{turned(&x, c.x, w, 60), turned(&x, c.x, w, 5), r.normals[0], last, nil, reversed(w), w[1:], word("aaaa")})
			continue
		}
		// ErrLimit comes whatever the other word is, and whatever the answer would be.
		for _, v := range [][]int64{w, mustGive(t, c.x, w), reversed(w), nil, {0}, turned(&x, c.x, w, 1), w[1:], word("aaaaaaaaaaaaaaaaaaaaaaaa")} {
			for _, f := range conjugateCalls(v) {
				got, code := f.call(c.x, w)
				mustFailLists(t, f.name, []any{c.text, v}, got, code, impl.ErrLimit)
			}
		}
		// As the other word, it is no reason to fail.
		for _, u := range [][]int64{nil, {0}, word("aaaaaaaaaaaaaaaaaaaaaaaa"), w[:1]} {
			is, code := impl.AreConjugate(c.x, u, w)
			mustReport(t, "AreConjugate", []any{u, c.text}, is, code, false)
			z, code := impl.ConjugatorOf(c.x, u, w)
			mustFail(t, "ConjugatorOf", u, z, code, no)
		}
	}
}

func TestConjugatesOfTheOtherWord(t *testing.T) {
	// Of words with the same content the one may have few conjugates, and the other one many.
	pairs, few, many := groups(true, 2, 2, 2, 2), word("abababcdcdcdefefefghghgh"), word("aaabbbcccdddeeefffggghhh")
	is, code := impl.AreConjugate(pairs, few, many)
	mustReport(t, "AreConjugate", "few, many", is, code, false)
	z, code := impl.ConjugatorOf(pairs, few, many)
	mustFail(t, "ConjugatorOf", few, z, code, no)
	for _, f := range conjugateCalls(few) {
		got, code := f.call(pairs, many)
		mustFailLists(t, f.name, "many, few", got, code, impl.ErrLimit)
	}
	is, code = impl.AreConjugate(pairs, few, word("hghghgbabababdcdcdcfefef"))
	mustReport(t, "AreConjugate", "few, another content", is, code, false)
	is, code = impl.AreConjugate(pairs, few, word("hghghgbababadcdcdcfefefe"))
	mustReport(t, "AreConjugate", "few, few", is, code, true)
}

func TestConjugatorsOfAboutMaxWordLetters(t *testing.T) {
	// To turn all neighbours round on a path, each letter must rotate once more than the next one.
	path := evenAlphabets()[11]
	lengths := map[int]int{}
	for _, text := range []string{"hgfedcba", "abcdefgh", "dcbaefgh", "hgfedcbahgfedcba"} {
		r, _ := roundaboutOf(path, word(text), 2000)
		for _, u := range r.normals {
			want := r.conjugatorFrom(u)
			lengths[len(want)]++
			z, code := impl.ConjugatorOf(path, u, word(text))
			mustBeOrFail(t, "ConjugatorOf", []any{text, u}, z, code, want, codeIf(len(want) <= 24, impl.ErrLimit))
			is, code := impl.AreConjugate(path, u, word(text))
			mustReport(t, "AreConjugate", []any{text, u}, is, code, true)
		}
	}
	if lengths[24] == 0 || lengths[25] == 0 || lengths[28] == 0 {
		t.Errorf("the conjugators have the lengths %v", lengths)
	}
	z, code := impl.ConjugatorOf(path, word("abcdefgh"), word("hgfedcba"))
	mustFail(t, "ConjugatorOf", word("abcdefgh"), z, code, impl.ErrLimit)
	z, code = impl.ConjugatorOf(path, word("abcdefgh"), word("aaaaaaaa"))
	mustFail(t, "ConjugatorOf", word("abcdefgh"), z, code, no)
}

func TestLyndonTraces(t *testing.T) {
	star := alphabetWhere(8, func(i, k int) bool { return k == 7 })
	cases := []struct {
		x    impl.Alphabet
		text string
		want bool
	}{
		{square(), "", false}, {square(), "a", true}, {square(), "d", true}, {square(), "aa", false}, {square(), "ab", true}, {square(), "ba", false}, {square(), "ac", false}, {square(), "bd", false}, {square(), "abc", true}, {square(), "acb", false},
		{square(), "aab", true}, {square(), "aba", false}, {square(), "abab", false}, {square(), "aabb", true}, {square(), "acbd", false}, {square(), "abdc", true}, {square(), "abcd", true}, {impl.Alphabet{}, "", false},
		{alphabetWith(1), "a", true}, {alphabetWith(1), times(24, "a"), false}, {alphabetWith(antichain(8)...), "h", true}, {alphabetWith(antichain(8)...), "ah", false}, {alphabetWith(antichain(8)...), "hgfedcbahgfedcbahgfedcba", false},
		{alphabetWith(complete(8)...), "abcdefgabcdefghabcdefgh", true}, {alphabetWith(complete(8)...), "abcdefghabcdefghabcdefgh", false}, {alphabetWith(complete(8)...), "aaabbbcccdddeeefffggghhh", true}, {star, "aaaabbbbccccdefh", true}, {star, "haaaabbbbccccdef", false},
		{star, "aabbccddefghaabbccddefgh", false}, {groups(true, 2, 2, 2, 2), "abcd", false}, {groups(true, 2, 2, 2, 2), "gghh", true},
	}
	for _, c := range cases {
		w := word(c.text)
		r, _ := roundaboutOf(c.x, w, 2000)
		k := int64(0)
		if len(w) > 0 {
			_, k = refRoot(c.x, w)
		}
		if want := isLyndon(refExtreme(c.x, w, 1), refTraceComponents(c.x, w), int(k), r.normals); want != c.want {
			t.Errorf("it is %v that %s is a Lyndon trace of %v", want, c.text, c.x)
		}
		is, code := impl.IsLyndon(c.x, w)
		mustReport(t, "IsLyndon", c.text, is, code, c.want)
	}
}

func TestNumbersOfShortLyndonTraces(t *testing.T) {
	shortTurns(t, [5]int{1, 8, 7, 6, 4}, func(d turns, length int) {
		_, exponents := d.roots(t, length)
		numbers := make([]int64, length+1)
		for v := range d.classes {
			normal := d.normal(v)
			if isLyndon(normal, refTraceComponents(d.x, normal), exponents[v], d.normals(d.conjugates(v))) {
				numbers[len(normal)]++
			}
		}
		for n := 1; n <= length; n++ {
			number, code := impl.CountLyndon(d.x, int64(n))
			mustBeNumber(t, "CountLyndon", []any{d.x, n}, number, code, numbers[n])
		}
	})
}

func TestNumbersOfListedLyndonTraces(t *testing.T) {
	someListings(testAlphabets(), 300, func(l listing) {
		if l.length == 0 {
			return
		}
		number := int64(0)
		for _, w := range l.normals {
			is, code := impl.IsLyndon(l.x, w)
			mustList(t, "IsLyndon", nil, code)
			if is {
				number++
			}
		}
		got, code := impl.CountLyndon(l.x, int64(l.length))
		mustBeNumber(t, "CountLyndon", []any{l.x, l.length}, got, code, number)
	})
}

func TestNumbersOfManyLyndonTraces(t *testing.T) {
	codes := map[int64]int{}
	for _, x := range testAlphabets() {
		series, numbers := refInverse(refPolynomial(x), 24), refLyndonNumbers(x, 24)
		for n := 1; n <= 24; n++ {
			code := codeIf(series[n].Cmp(big.NewInt(impl.MaxCount)) <= 0, impl.ErrLimit)
			number, got := impl.CountLyndon(x, int64(n))
			mustCount(t, "CountLyndon", []any{x, n}, number, got, numbers[n].Int64(), code)
			codes[code]++
		}
	}
	if codes[impl.ErrNone] < 1000 || codes[impl.ErrLimit] < 100 {
		t.Errorf("the numbers have the codes %v", codes)
	}
}

func TestNumbersOfLyndonTracesOfAboutMaxCount(t *testing.T) {
	for _, c := range aboutMaxCount() {
		number, code := impl.CountLyndon(c.x, c.n)
		mustBeNumber(t, "CountLyndon", c.x, number, code, refLyndonNumbers(c.x, int(c.n))[c.n].Int64())
	}
	small := 0
	for _, c := range append(overMaxCount(), manyTraces{groups(true, 4, 4), 24, 0}, manyTraces{groups(true, 1, 7), 18, 0}, manyTraces{groups(true, 1, 1, 1, 5), 22, 0}) {
		// ErrLimit is returned also where the number of Lyndon traces is much smaller.
		if refLyndonNumbers(c.x, int(c.n))[c.n].Cmp(big.NewInt(impl.MaxCount/10)) < 0 {
			small++
		}
		number, code := impl.CountLyndon(c.x, c.n)
		mustCount(t, "CountLyndon", []any{c.x, c.n}, number, code, 0, impl.ErrLimit)
	}
	if small < 3 {
		t.Errorf("only in %d cases the number of Lyndon traces is much smaller", small)
	}
}

func TestNumbersOfLyndonTracesOfFewLetters(t *testing.T) {
	for n := int64(1); n <= 24; n++ {
		for letters := range 9 {
			want := int64(0)
			if n == 1 {
				want = int64(letters)
			}
			number, code := impl.CountLyndon(alphabetWith(antichain(letters)...), n)
			mustBeNumber(t, "CountLyndon of independent letters", []any{letters, n}, number, code, want)
		}
	}
	two := []int64{2, 1, 2, 3, 6, 9, 18, 30, 56, 99, 186, 335} // the numbers of Lyndon words of two letters
	for i, want := range two {
		number, code := impl.CountLyndon(alphabetWith(3, 3), int64(i+1))
		mustBeNumber(t, "CountLyndon of two letters", i+1, number, code, want)
	}
	for _, x := range slices.Concat(evenAlphabets(), smallAlphabets()) {
		for _, n := range []int64{0, -1, -24, 25, 26, 1 << 32, 1<<32 + 3, math.MaxInt64, math.MinInt64} {
			number, code := impl.CountLyndon(x, n)
			mustCount(t, "CountLyndon", []any{x, n}, number, code, 0, impl.ErrRange)
		}
	}
	for _, x := range notAlphabets() {
		for _, n := range []int64{1, 24, 0, -1, 25, math.MaxInt64} {
			number, code := impl.CountLyndon(x, n)
			mustCount(t, "CountLyndon", n, number, code, 0, impl.ErrInvalid)
		}
	}
}

func TestConjugacyOfEmptyWords(t *testing.T) {
	for _, x := range slices.Concat(evenAlphabets(), smallAlphabets(), []impl.Alphabet{{Depends: []int64{}}}) {
		for _, w := range [][]int64{nil, {}} {
			for _, k := range []int64{0, 1, 24} {
				for _, f := range conjugacyCalls(nil, k) {
					got, code := f.call(x, w)
					switch f.name {
					case "RootOf":
						mustFailLists(t, f.name, x, got, code, impl.ErrState)
					case "AreCommuting", "AreConjugate":
						mustBeLists(t, f.name, x, got, code, [][]int64{{1}})
					case "TransposesOf", "ConjugatesOf":
						mustBeLists(t, f.name, x, got, code, [][]int64{{}})
					default:
						mustFailLists(t, f.name, x, got, code, impl.ErrNone)
					}
				}
			}
		}
	}
}

func TestInvalidAlphabetsOfConjugacy(t *testing.T) {
	// ErrInvalid comes before ErrRange, before ErrLimit and before the other errors.
	lists := [][]int64{nil, {0}, {0, 0}, {1}, {-1}, {8}, make([]int64, 24), make([]int64, 25), word("hgfedcbahgfedcbahgfedcba")}
	for _, x := range notAlphabets() {
		for _, w := range lists {
			for _, f := range slices.Concat(conjugacyCalls(nil, 0), conjugacyCalls(w, -1), conjugacyCalls([]int64{0}, 24), conjugacyCalls([]int64{-1}, 25)) {
				got, code := f.call(x, w)
				mustFailLists(t, f.name, x.Depends[:min(len(x.Depends), 9)], got, code, impl.ErrInvalid)
			}
		}
	}
}

func TestWordsThatAreRefusedForConjugacy(t *testing.T) {
	// ErrRange comes before ErrLimit and before the other errors, whichever word is none.
	pairs := groups(true, 2, 2, 2, 2)
	for _, x := range []impl.Alphabet{{}, alphabetWith(1), square(), alphabetWith(antichain(8)...), alphabetWith(complete(8)...), pairs} {
		for _, w := range notWords(x.Letters) {
			for _, v := range [][]int64{nil, {0}, {1}, make([]int64, 24), word("aaabbbcccdddeeefffggghhh"), w} {
				for _, f := range slices.Concat(conjugacyCalls(v, 24), conjugacyCalls(v, 25)) {
					got, code := f.call(x, w)
					mustFailLists(t, f.name, w[:min(len(w), 30)], got, code, impl.ErrRange)
				}
			}
		}
	}
}

func TestOrderOfErrorsOfConjugacy(t *testing.T) {
	// Of a trace with too many conjugates, ErrLimit comes before ErrNotFound.
	pairs, many := groups(true, 2, 2, 2, 2), word("aaabbbcccdddeeefffggghhh")
	z, code := impl.ConjugatorOf(pairs, many, nil)
	mustFail(t, "ConjugatorOf", many, z, code, impl.ErrLimit)
	z, code = impl.ConjugatorOf(pairs, nil, many)
	mustFail(t, "ConjugatorOf", nil, z, code, no)
	// A letter that is no first one comes behind letters that are none.
	for _, letters := range [][]int64{{1, 4}, {1, -1}, append(make([]int64, 24), 1), make([]int64, 25)} {
		got, code := impl.RotateBy(square(), word("abc"), letters)
		mustFail(t, "RotateBy", letters, got, code, impl.ErrRange)
	}
	for _, letters := range [][]int64{{1}, {0, 0}, {0, 1, 3}, slices.Repeat([]int64{3}, 24)} {
		got, code := impl.RotateBy(square(), word("abc"), letters)
		mustFail(t, "RotateBy", letters, got, code, impl.ErrState)
	}
}

func TestConjugacyIsTheSameForAllWords(t *testing.T) {
	compared := 0
	someTraces(107, func(x *numbers, y impl.Alphabet, u, v []int64) {
		other := turned(x, y, u, min(len(u), 1+x.below(30)))
		again := exchanged(x, y, other, 1+x.below(60))
		first, second := conjugacyCalls(other, 2), conjugacyCalls(again, 2)
		for i, f := range first {
			if f.name == "RotateBy" {
				continue // where the order of the letters counts
			}
			want, wantCode := f.call(y, u)
			got, code := second[i].call(y, v)
			if code != wantCode || !areEqualLists(got, want) {
				t.Errorf("%s(%v, %v) = %v, %d, and not %v, %d", f.name, y, v, got, code, want, wantCode)
			}
			compared++
		}
	})
	if compared < 1000 {
		t.Errorf("only %d results were compared", compared)
	}
}

func TestPromise7OnRoots(t *testing.T) {
	someTraces(108, func(x *numbers, y impl.Alphabet, u, v []int64) {
		normal := mustGive(t, y, u)
		list, code := impl.TraceComponents(y, v)
		mustList(t, "TraceComponents", nil, code)
		product := []int64(nil)
		for _, i := range someNames(x, len(list)) { // in any order
			product, code = impl.Concatenate(y, product, list[i])
			mustList(t, "Concatenate", nil, code)
			is, code := impl.IsConnectedTrace(y, list[i])
			mustReport(t, "IsConnectedTrace", list[i], is, code, true)
		}
		mustAgree(t, []any{y, u}, product, normal)
		if len(u) == 0 {
			return
		}
		root, k, code := impl.RootOf(y, v)
		mustList(t, "RootOf", root, code)
		power, code := impl.PowerOf(y, root, k)
		mustBe(t, "PowerOf of "+key(y)+key(k), root, power, code, normal)
		is, code := impl.IsPrimitive(y, root)
		mustReport(t, "IsPrimitive", []any{y, root}, is, code, true)
		for i := range int64(25) { // powers of the same root commute, and have this root
			power, code := impl.PowerOf(y, root, i)
			if i > 0 && code == impl.ErrNone {
				got, times, code := impl.RootOf(y, power)
				mustBe(t, "RootOf", power, append(got, times), code, append(slices.Clone(root), i))
				is, code := impl.AreCommuting(y, power, v)
				mustReport(t, "AreCommuting", []any{y, power, v}, is, code, true)
			}
		}
	})
}

func TestPromise7OnConjugates(t *testing.T) {
	rotations := 0
	someTraces(109, func(x *numbers, y impl.Alphabet, u, v []int64) {
		form, code := impl.CyclicForm(y, u)
		if code == impl.ErrLimit || len(u) == 0 {
			return
		}
		for _, w := range [][]int64{v, turned(x, y, u, 1+x.below(20)), turned(x, y, v, 1+x.below(20)), form, exchanged(x, y, reversed(u), 9)} {
			other, code := impl.CyclicForm(y, w)
			if code == impl.ErrLimit {
				continue
			}
			is, code := impl.AreConjugate(y, u, w)
			mustReport(t, "AreConjugate", []any{y, u, w}, is, code, slices.Equal(form, other))
			z, code := impl.ConjugatorOf(y, u, w)
			if !is {
				mustFail(t, "ConjugatorOf of "+key(y)+key(w), u, z, code, no)
				continue
			}
			if code == impl.ErrLimit {
				continue
			}
			to, code := impl.RotateBy(y, u, z)
			mustBe(t, "RotateBy of "+key(y)+key(z), u, to, code, mustGive(t, y, w))
			left, code := impl.Concatenate(y, u, z)
			right, rightCode := impl.Concatenate(y, z, w)
			if code != rightCode || !slices.Equal(left, right) {
				t.Errorf("the products of %v and %v, and of %v and %v, differ in %v", u, z, z, w, y)
			}
			if len(z) > 0 {
				rotations++
			}
		}
	})
	if rotations < 200 {
		t.Errorf("only %d times rotations were needed", rotations)
	}
}

func TestPromise26(t *testing.T) {
	for _, x := range testAlphabets() {
		// The product of the factors so far, which have no more to say of traces with fewer letters.
		product := append([]*big.Int{big.NewInt(1)}, slices.Repeat([]*big.Int{new(big.Int)}, 24)...)
		for n := int64(1); n <= 24; n++ {
			number, code := impl.CountTraces(x, n)
			exponent, lyndonCode := impl.CountLyndon(x, n)
			if code != lyndonCode {
				t.Fatalf("CountTraces(%v, %d) and CountLyndon have the codes %d and %d", x, n, code, lyndonCode)
			}
			if code != impl.ErrNone {
				break
			}
			product = timesFactor(product, int(n), exponent)
			if product[n].Cmp(big.NewInt(number)) != 0 {
				t.Errorf("CountTraces(%v, %d) = %d, and the product of the series is %v", x, n, number, product)
			}
		}
	}
}

// timesFactor returns the first elements of the product of a series and (1 - z^n)^-exponent: of k
// things, of exponent kinds, there are as many choices as sets of k of exponent + k - 1.
func timesFactor(series []*big.Int, n int, exponent int64) []*big.Int {
	product := make([]*big.Int, len(series))
	for m := range product {
		product[m] = new(big.Int)
		for k := 0; k*n <= m; k++ {
			choices := refBinomial(big.NewInt(exponent+int64(k)-1), int64(k))
			product[m].Add(product[m], choices.Mul(choices, series[m-k*n]))
		}
	}
	return product
}

func TestConjugacyIsFast(t *testing.T) {
	wide, narrow, path := alphabetWith(antichain(8)...), alphabetWith(complete(8)...), evenAlphabets()[11]
	star := alphabetWhere(8, func(i, k int) bool { return k == 7 })
	texts := []string{"hgfedcbahgfedcbahgfedcba", "aaabbbcccdddeeefffggghhh", "abcdefghabcdefghabcdefgh", times(24, "a"), times(24, "h"), times(12, "ab"), "ahbhchdhehfhghah", "aaaabbbbccccdefh", "aaabbbcccdddeeefffgggh", "h", ""}
	for _, x := range []impl.Alphabet{wide, narrow, path, star, groups(true, 4, 4), groups(true, 2, 2, 2, 2), groups(false, 2, 2, 2, 2)} {
		for _, text := range texts {
			for _, other := range []string{texts[0], text, ""} {
				for _, f := range conjugacyCalls(word(other), 24) {
					within(t, f.name, func() { f.call(x, word(text)) })
				}
			}
		}
		for n := int64(1); n <= 24; n++ {
			within(t, "CountLyndon", func() { impl.CountLyndon(x, n) })
		}
	}
	for _, f := range conjugacyCalls(make([]int64, 5000000), math.MaxInt64) {
		within(t, f.name, func() { f.call(wide, make([]int64, 5000000)) })
	}
}

func TestConjugacySharesNoMemory(t *testing.T) {
	texts := []string{"", "a", "ca", "cabd", "acacbdbd", "aacc", "abcdabcd", "acb", "cba"}
	checkMemory(t, texts, func(v []int64) []wordCall {
		return slices.Concat(conjugacyCalls(v, 0), conjugacyCalls(v, 1), conjugacyCalls(v, 3))
	})
	depends, isKept := spacious(square().Depends)
	number, code := impl.CountLyndon(impl.Alphabet{Letters: 4, Depends: depends}, 3)
	again, _ := impl.CountLyndon(impl.Alphabet{Letters: 4, Depends: depends}, 3)
	mustBeNumber(t, "CountLyndon", 3, number, code, again)
	if !isKept() {
		t.Errorf("CountLyndon changes an argument")
	}
}
