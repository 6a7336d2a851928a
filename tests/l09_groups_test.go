package tests

import (
	"math"
	"math/big"
	"slices"
	"strings"
	"testing"

	"loop.example/g01094/impl"
)

// truly is the text of the list {1}, which stands for true, as a signed word.
const truly = "a"

// coreCall turns CyclicReduction into a function to lists, none if core and frame are empty.
func coreCall(x impl.Alphabet, w []int64) ([][]int64, int64) {
	core, frame, code := impl.CyclicReduction(x, w)
	if len(core)+len(frame) == 0 {
		return nil, code
	}
	return [][]int64{core, frame}, code
}

// groupRootCall turns GroupRoot into a function to lists, none if root and exponent are the zero values.
func groupRootCall(x impl.Alphabet, w []int64) ([][]int64, int64) {
	root, k, code := impl.GroupRoot(x, w)
	if len(root) == 0 && k == 0 {
		return nil, code
	}
	return [][]int64{root, {k}}, code
}

// groupPairCalls returns the functions that are given two signed words.
func groupPairCalls() []twoWords {
	return []twoWords{
		{"AreGroupEqual", answers(impl.AreGroupEqual)}, {"GroupProduct", impl.GroupProduct}, {"AreGroupConjugate", answers(impl.AreGroupConjugate)}, {"GroupConjugator", impl.GroupConjugator},
	}
}

// groupCalls returns the functions of chapter 9 as functions of an alphabet and of each one of their
// signed words, with v as their other word, k as the exponent, and a mask.
func groupCalls(v []int64, k, mask int64) []wordCall {
	list := []wordCall{
		{"GroupForm", oneList(impl.GroupForm)}, {"GroupInverse", oneList(impl.GroupInverse)}, {"ExponentsOf", oneList(impl.ExponentsOf)}, {"IsPositive", oneAnswer(impl.IsPositive)},
		{"GroupPower", oneList(func(x impl.Alphabet, w []int64) ([]int64, int64) { return impl.GroupPower(x, w, k) })},
		{"RetractOn", oneList(func(x impl.Alphabet, w []int64) ([]int64, int64) { return impl.RetractOn(x, w, mask) })},
		{"CyclicReduction", coreCall}, {"GroupRoot", groupRootCall},
	}
	for _, f := range groupPairCalls() {
		list = append(list,
			wordCall{f.name, oneList(func(x impl.Alphabet, w []int64) ([]int64, int64) { return f.call(x, w, v) })},
			wordCall{f.name, oneList(func(x impl.Alphabet, w []int64) ([]int64, int64) { return f.call(x, v, w) })})
	}
	return list
}

// checkSignedTexts holds a function of two signed words against what it must return.
func checkSignedTexts(t *testing.T, x impl.Alphabet, name string, call func(impl.Alphabet, []int64, []int64) ([]int64, int64), cases []textsOfPair) {
	t.Helper()
	for _, c := range cases {
		got, code := call(x, signed(c.u), signed(c.v))
		if code != c.code || !slices.Equal(got, signed(c.want)) {
			t.Errorf("%s(%v, %q, %q) = %v, %d, and not %q, %d", name, x, c.u, c.v, got, code, c.want, c.code)
		}
	}
}

// textOfCall is a call of a function of one signed word, and what it must return: a text, or a code.
type textOfCall struct {
	w, want string
	code    int64
}

// checkSignedText holds a function of one signed word against what it must return.
func checkSignedText(t *testing.T, x impl.Alphabet, name string, call func(impl.Alphabet, []int64) ([]int64, int64), cases []textOfCall) {
	t.Helper()
	for _, c := range cases {
		got, code := call(x, signed(c.w))
		if code != c.code || !slices.Equal(got, signed(c.want)) {
			t.Errorf("%s(%v, %q) = %v, %d, and not %q, %d", name, x, c.w, got, code, c.want, c.code)
		}
	}
}

// answer turns a function of one word to a truth value into one to a list, {1} for true.
func answer(call func(impl.Alphabet, []int64) (bool, int64)) func(impl.Alphabet, []int64) ([]int64, int64) {
	return func(x impl.Alphabet, w []int64) ([]int64, int64) {
		got, code := call(x, w)
		if !got {
			return nil, code
		}
		return []int64{1}, code
	}
}

// powerWith returns GroupPower with an exponent.
func powerWith(k int64) func(impl.Alphabet, []int64) ([]int64, int64) {
	return func(x impl.Alphabet, w []int64) ([]int64, int64) { return impl.GroupPower(x, w, k) }
}

// retractWith returns RetractOn with a mask.
func retractWith(mask int64) func(impl.Alphabet, []int64) ([]int64, int64) {
	return func(x impl.Alphabet, w []int64) ([]int64, int64) { return impl.RetractOn(x, w, mask) }
}

func TestExamplesOfGroups(t *testing.T) {
	x := square()
	text, code := impl.SignedText([]int64{1, -3})
	if text != "aC" || code != impl.ErrNone {
		t.Errorf("SignedText = %q, %d", text, code)
	}
	checkSignedText(t, x, "GroupForm", impl.GroupForm, []textOfCall{{"caC", "a", 0}})
	checkSignedTexts(t, x, "GroupProduct", impl.GroupProduct, []textsOfPair{{"ab", "Bc", "ac", 0}})
	core, frame, code := impl.CyclicReduction(x, signed("abbA"))
	mustBe(t, "the core of CyclicReduction", signed("abbA"), core, code, signed("bb"))
	mustBe(t, "the frame of CyclicReduction", signed("abbA"), frame, code, signed("a"))
	checkSignedTexts(t, x, "GroupConjugator", impl.GroupConjugator, []textsOfPair{{"abA", "b", "a", 0}})
	lists, code := groupRootCall(x, signed("abbA"))
	mustBeLists(t, "GroupRoot", "abbA", lists, code, [][]int64{signed("abA"), {2}})
	number, code := impl.CountElements(alphabetWith(1, 2), 2)
	mustBeNumber(t, "CountElements", 2, number, code, 8)
}

// notSignedWords returns lists that are not signed words of n letters.
func notSignedWords(n int64) [][]int64 {
	list := [][]int64{
		{0}, {n + 1}, {-n - 1}, {9}, {-9}, {16}, {-16}, {1 << 32}, {1<<32 + 1}, {-1 << 32}, {math.MaxInt64}, {math.MinInt64}, {math.MinInt64 + 1}, {math.MinInt64 | 1<<32},
		make([]int64, 1), make([]int64, 24), make([]int64, 25), slices.Repeat([]int64{1}, 25), slices.Repeat([]int64{-1}, 25), slices.Repeat([]int64{1, -1}, 13), slices.Repeat([]int64{1}, 100000),
	}
	if n == 0 {
		return append(list, []int64{1}, []int64{-1})
	}
	first, last := slices.Repeat([]int64{n}, 24), slices.Repeat([]int64{-n}, 24)
	for _, s := range []int64{0, n + 1, -n - 1, math.MinInt64} {
		wrongFirst, wrongLast := slices.Clone(first), slices.Clone(last)
		wrongFirst[0], wrongLast[23] = s, s
		list = append(list, wrongFirst, wrongLast, []int64{1, s, -1}, []int64{s, -s})
	}
	return list
}

func TestIsSignedWord(t *testing.T) {
	for n := range 4 {
		x := alphabetWith(complete(n)...)
		for _, w := range wordsUpTo(2*n+3, 4) {
			for i := range w {
				w[i] -= int64(n) + 1 // so that -n - 1, 0 and n + 1, which are no signed letters, occur
			}
			if got := impl.IsSignedWord(x, w); got != refIsSignedWord(x, w) {
				t.Fatalf("IsSignedWord(%v, %v) = %v", x, w, got)
			}
		}
	}
	for _, x := range testAlphabets() {
		if !impl.IsSignedWord(x, nil) || !impl.IsSignedWord(x, []int64{}) {
			t.Errorf("the empty word is no signed word of %v", x)
		}
		for _, s := range allSigned(x.Letters) {
			if !impl.IsSignedWord(x, []int64{s}) || !impl.IsSignedWord(x, slices.Repeat([]int64{s}, 24)) || impl.IsSignedWord(x, slices.Repeat([]int64{s}, 25)) {
				t.Errorf("IsSignedWord is wrong for words of %d and %v", s, x)
			}
		}
		for _, w := range notSignedWords(x.Letters) {
			if impl.IsSignedWord(x, w) {
				t.Errorf("IsSignedWord(%v, %v)", x, w[:min(len(w), 30)])
			}
		}
	}
	for _, x := range notAlphabets() {
		if impl.IsSignedWord(x, nil) || impl.IsSignedWord(x, []int64{1}) || impl.IsSignedWord(x, []int64{0}) {
			t.Errorf("%v, which is no alphabet, has a signed word", x.Letters)
		}
	}
}

func checkTextOfSigned(t *testing.T, text string, w []int64) {
	t.Helper()
	if got, code := impl.SignedText(w); got != text || code != impl.ErrNone {
		t.Errorf("SignedText(%v) = %q, %d", w, got, code)
	}
	got, code := impl.ParseSigned(text)
	mustBe(t, "ParseSigned of the text of ", w, got, code, w)
}

func TestSignedTexts(t *testing.T) {
	cases := map[string][]int64{
		"-": {}, "a": {1}, "A": {-1}, "h": {8}, "H": {-8}, "aC": {1, -3}, "Aa": {-1, 1}, "abcdefgh": {1, 2, 3, 4, 5, 6, 7, 8}, "ABCDEFGH": {-1, -2, -3, -4, -5, -6, -7, -8},
		strings.Repeat("H", 24): slices.Repeat([]int64{-8}, 24), strings.Repeat("aA", 12): slices.Repeat([]int64{1, -1}, 12),
	}
	for text, w := range cases {
		checkTextOfSigned(t, text, w)
	}
	for _, s := range allSigned(8) {
		checkTextOfSigned(t, refSignedText([]int64{s}), []int64{s})
		checkTextOfSigned(t, strings.Repeat(refSignedText([]int64{s}), 24), slices.Repeat([]int64{s}, 24))
	}
	x := numbers(400)
	for range 500 {
		w := someSigned(&x, 8, x.below(25))
		checkTextOfSigned(t, refSignedText(w), w)
	}
	if text, code := impl.SignedText(nil); text != "-" || code != impl.ErrNone {
		t.Errorf("SignedText(nil) = %q, %d", text, code)
	}
	for _, w := range notSignedWords(8) {
		if text, code := impl.SignedText(w); text != "" || code != impl.ErrRange {
			t.Errorf("SignedText(%v) = %q, %d", w[:min(len(w), 30)], text, code)
		}
	}
}

func TestTextsOfNoSignedWord(t *testing.T) {
	bad := []string{
		"", " ", "--", "-a", "a-", "A-", "-A", "a-B", "- ", " -", "-\n", "_", "\u2013", "\u2212", "-\x00", "i", "I", "ai", "aI", "Ia", "iA", "hI", "Hi", "z", "Z", "`", "a`", "@", "A@", "[", "H[", "{", "^", "\\",
		"0", "1", "8", "a1", "-1", "1,-3", "9", ":", ";", "?", ">", " a", "a ", "a b", "a\n", "\na", "A\tB", "a,b", "a\x00", "\x00", "\xff", "a\xff", "\xffA", "\xe1\xbf", "a\xc3", "\xc1\xa1", "\xc1\x81", "\xe0\x81\xa1", "\xed\xa0\x80",
		"а", "А", "ａ", "Ａ", "á", "a\u0301", "\ufeffa", "\ufffd", "\U00010061", "\U00010041", "\U0001d41a", "\u0161", "\u0141", "\u0141\u0142",
		strings.Repeat("a", 25), strings.Repeat("H", 25), strings.Repeat("aA", 13), strings.Repeat("a", 24) + "-", strings.Repeat("A", 24) + " ", strings.Repeat("a", 24) + "\n",
		strings.Repeat("a", 23) + "i", strings.Repeat("A", 23) + "I", strings.Repeat("A", 23) + "-", strings.Repeat("-", 24), strings.Repeat("a", 100000), strings.Repeat("-", 100000), strings.Repeat("A", 256), strings.Repeat("A", 257),
		strings.Repeat("\xff", 24), strings.Repeat("á", 12), strings.Repeat("á", 24),
	}
	for _, text := range bad {
		got, code := impl.ParseSigned(text)
		mustFail(t, "ParseSigned", []int64{int64(len(text))}, got, code, impl.ErrSyntax)
		if code != impl.ErrSyntax {
			t.Errorf("the text was %s", quoted(text))
		}
	}
}

func TestAllShortTextsOfSignedWords(t *testing.T) {
	texts := map[string][]int64{}
	for _, w := range signedWordsUpTo(8, 4) {
		texts[refSignedText(w)] = w
	}
	// All bytes one after the other, and then some of them.
	for c := range 256 {
		for _, text := range []string{string([]byte{byte(c)}), "a" + string([]byte{byte(c)}), string([]byte{byte(c)}) + "A"} {
			checkShortTextOfSigned(t, texts, text)
		}
	}
	level := []string{""}
	for range 5 {
		var longer []string
		for _, text := range level {
			checkShortTextOfSigned(t, texts, text)
			for _, c := range []byte("-`ahiAHI@[ \xff") {
				longer = append(longer, text+string([]byte{c}))
			}
		}
		level = longer
	}
}

// checkShortTextOfSigned holds ParseSigned against a map from all texts with at most so many bytes.
func checkShortTextOfSigned(t *testing.T, texts map[string][]int64, text string) {
	t.Helper()
	got, code := impl.ParseSigned(text)
	want, found := texts[text]
	if !found {
		mustFail(t, "ParseSigned of "+quoted(text), nil, got, code, impl.ErrSyntax)
		return
	}
	mustBe(t, "ParseSigned of "+quoted(text), want, got, code, want)
	if again, code := impl.SignedText(got); again != text || code != impl.ErrNone {
		t.Errorf("SignedText(%v) = %q, %d, and the text was %q", got, again, code, text)
	}
}

// shortElements calls a function with the elements of all alphabets with up to 4 letters that have
// words with at most so many signed letters: lengths[n] for n letters of the alphabet.
func shortElements(t *testing.T, lengths [5]int, call func(e elements)) {
	t.Helper()
	for _, x := range smallAlphabets() {
		call(elementsOf(t, x, lengths[x.Letters]))
	}
}

// refExponents counts the signed letters of a word.
func refExponents(x impl.Alphabet, w []int64) []int64 {
	exponents := make([]int64, x.Letters)
	for _, s := range w {
		exponents[letterOf(s)] += sign(s)
	}
	return exponents
}

// kept returns the signed letters of a word whose letters are in a set.
func kept(w []int64, mask int64) []int64 {
	return slices.DeleteFunc(slices.Clone(w), func(s int64) bool { return !isMember(mask, letterOf(s)) })
}

func isNegative(s int64) bool { return s < 0 }

// check holds the functions of one signed word against the definitions on all words of an element.
func (e elements) check(t *testing.T, u, root, exponent int) {
	t.Helper()
	normal := e.normal(u)
	core, frame := e.cyclicReduction(u)
	for _, w := range e.classes[u] {
		got, code := impl.GroupForm(e.x, w)
		mustBe(t, "GroupForm of "+key(e.x), w, got, code, normal)
		got, code = impl.GroupInverse(e.x, w)
		mustBe(t, "GroupInverse of "+key(e.x), w, got, code, e.normal(e.of(inverted(w))))
		got, code = impl.ExponentsOf(e.x, w)
		mustBe(t, "ExponentsOf of "+key(e.x), w, got, code, refExponents(e.x, w))
		is, code := impl.IsPositive(e.x, w)
		mustReport(t, "IsPositive", []any{e.x, w}, is, code, !slices.ContainsFunc(normal, isNegative))
		for mask := range int64(1) << e.x.Letters {
			got, code = impl.RetractOn(e.x, w, mask)
			mustBe(t, "RetractOn of "+key(e.x)+key(mask), w, got, code, e.normal(e.of(kept(w, mask))))
		}
		gotCore, gotFrame, code := impl.CyclicReduction(e.x, w)
		if code != impl.ErrNone || !slices.Equal(gotCore, e.normal(core)) || !slices.Equal(gotFrame, e.normal(frame)) {
			t.Errorf("CyclicReduction(%v, %v) = %v, %v, %d, and not %v, %v", e.x, w, gotCore, gotFrame, code, e.normal(core), e.normal(frame))
		}
		lists, code := groupRootCall(e.x, w)
		if root < 0 {
			mustFailLists(t, "GroupRoot", []any{e.x, w}, lists, code, impl.ErrState)
		} else {
			mustBeLists(t, "GroupRoot", []any{e.x, w}, lists, code, [][]int64{e.normal(root), {int64(exponent)}})
		}
	}
}

func TestElementsOfAllShortSignedWords(t *testing.T) {
	t.Parallel()
	check := func(e elements) {
		roots, exponents := e.roots(t)
		for u := range e.classes {
			e.check(t, u, roots[u], exponents[u])
		}
	}
	shortElements(t, [5]int{1, 10, 6, 4, 3}, check)
	for _, x := range leastOnes(t, 3) {
		check(elementsOf(t, x, 5))
	}
	for _, x := range leastOnes(t, 4) {
		check(elementsOf(t, x, 4))
	}
}

// leastOnes returns the least forms with n letters.
func leastOnes(t *testing.T, n int64) []impl.Alphabet {
	t.Helper()
	list, code := impl.AllAlphabets(n)
	mustList(t, "AllAlphabets", nil, code)
	return list
}

func TestProductsOfAllShortSignedWords(t *testing.T) {
	t.Parallel()
	shortElements(t, [5]int{1, 8, 6, 4, 3}, func(e elements) {
		list := signedWordsUpTo(e.x.Letters, e.length)
		for _, f := range list {
			for _, g := range list {
				if len(f)+len(g) <= e.length {
					got, code := impl.GroupProduct(e.x, f, g)
					mustBe(t, "GroupProduct of "+key(e.x)+key(f), g, got, code, e.normal(e.of(f, g)))
				}
			}
		}
	})
}

func TestEqualShortSignedWords(t *testing.T) {
	t.Parallel()
	found := 0
	shortElements(t, [5]int{1, 8, 4, 3, 2}, func(e elements) {
		list := signedWordsUpTo(e.x.Letters, e.length)
		for i, f := range list {
			for k, g := range list {
				areEqual := e.of(f) == e.of(g)
				// Of those that are not equal only some, as there are very many.
				if areEqual || len(list) < 100 || (i+k)%7 == 0 {
					is, code := impl.AreGroupEqual(e.x, f, g)
					mustReport(t, "AreGroupEqual", []any{e.x, f, g}, is, code, areEqual)
				}
				if areEqual && i < k {
					found++
				}
			}
		}
	})
	if found < 1000 {
		t.Errorf("only %d pairs of different words are equal", found)
	}
}

func TestPowersOfAllShortSignedWords(t *testing.T) {
	t.Parallel()
	codes := map[int64]int{}
	shortElements(t, [5]int{1, 5, 3, 2, 2}, func(e elements) {
		for u, class := range e.classes {
			for k := int64(-24); k <= 24; k++ {
				factor := e.normal(u)
				if k < 0 {
					factor = inverted(factor)
				}
				want := refGroupForm(e.x, slices.Repeat(factor, int(max(k, -k))))
				for _, w := range class {
					got, code := impl.GroupPower(e.x, w, k)
					mustBeOrFail(t, "GroupPower", []any{e.x, w, k}, got, code, want, codeIf(len(want) <= 24, impl.ErrLimit))
					codes[code]++
				}
			}
		}
	})
	if codes[impl.ErrNone] < 1000 || codes[impl.ErrLimit] < 1000 {
		t.Errorf("the powers have the codes %v", codes)
	}
}

// conjugatesBy returns the texts of all products of an element of a list, v, and the inverse of the
// first one.
func conjugatesBy(x impl.Alphabet, list [][]int64, v []int64) map[string]bool {
	found := map[string]bool{}
	for _, g := range list {
		found[refSignedText(refGroupForm(x, framed(g, v)))] = true
	}
	return found
}

func TestConjugateShortElements(t *testing.T) {
	t.Parallel()
	// Elements are conjugate exactly if some g makes the one of the other one. Those with at most so many
	// signed letters need a g with at most one more.
	found := [2]int{}
	lengths := [5]int{1, 4, 4, 3, 2}
	shortElements(t, [5]int{1, 5, 5, 4, 3}, func(e elements) {
		var normals [][]int64
		for u := range e.classes {
			normals = append(normals, e.normal(u))
		}
		isLong := func(u []int64) bool { return len(u) > lengths[e.x.Letters] }
		short := slices.DeleteFunc(slices.Clone(normals), isLong)
		for _, v := range short {
			conjugates := conjugatesBy(e.x, normals, v)
			for _, u := range short {
				areConjugate := conjugates[refSignedText(u)]
				is, code := impl.AreGroupConjugate(e.x, u, v)
				mustReport(t, "AreGroupConjugate", []any{e.x, u, v}, is, code, areConjugate)
				g, code := impl.GroupConjugator(e.x, u, v)
				if !areConjugate {
					mustFail(t, "GroupConjugator of "+key(e.x)+key(u), v, g, code, no)
					found[0]++
				} else {
					mustBe(t, "the element that GroupConjugator makes of "+key(e.x)+key(v), g, refGroupForm(e.x, framed(g, v)), code, u)
					found[1]++
				}
			}
		}
	})
	if found[0] < 10000 || found[1] < 3000 {
		t.Errorf("%v pairs are not conjugate, and are", found)
	}
}

func TestConjugatorsOfAllShortElements(t *testing.T) {
	t.Parallel()
	moved := 0
	shortElements(t, [5]int{1, 6, 5, 4, 3}, func(e elements) {
		cores, frames := none(len(e.classes)), none(len(e.classes))
		conjugators := map[int]map[int][]int64{}
		for u := range e.classes {
			cores[u], frames[u] = e.cyclicReduction(u)
			if cores[u] == u {
				conjugators[u] = e.conjugators(u)
			}
		}
		for u := range e.classes {
			for v := range e.classes {
				way, areConjugate := conjugators[cores[u]][cores[v]]
				if !areConjugate {
					continue
				}
				// The last words of the elements, which are mostly not the normal forms.
				f, g := e.classes[u][len(e.classes[u])-1], e.classes[v][len(e.classes[v])-1]
				is, code := impl.AreGroupConjugate(e.x, f, g)
				mustReport(t, "AreGroupConjugate", []any{e.x, f, g}, is, code, true)
				want := refGroupForm(e.x, slices.Concat(e.normal(frames[u]), way, inverted(e.normal(frames[v]))))
				got, code := impl.GroupConjugator(e.x, f, g)
				mustBeOrFail(t, "GroupConjugator", []any{e.x, f, g}, got, code, want, impl.ErrNone)
				moved += min(len(way), 1)
			}
		}
	})
	if moved < 1000 {
		t.Errorf("only %d pairs have cores that rotations lead to each other", moved)
	}
}

func TestShortElementsAgainstPilings(t *testing.T) {
	t.Parallel()
	// The other ways in which the functions are tried on long words agree with the definitions.
	shortElements(t, [5]int{1, 8, 5, 4, 3}, func(e elements) {
		roots, exponents := e.roots(t)
		for u, class := range e.classes {
			for _, w := range class {
				mustAgree(t, []any{e.x, w}, refGroupForm(e.x, w), e.normal(u))
			}
			core, frame := e.cyclicReduction(u)
			gotCore, gotFrame := refCyclicReduction(e.x, e.normal(u))
			mustAgree(t, []any{e.x, e.normal(u)}, gotCore, e.normal(core))
			mustAgree(t, []any{e.x, e.normal(u)}, gotFrame, e.normal(frame))
			if roots[u] >= 0 {
				root, k := refGroupRoot(e.x, e.normal(u))
				mustAgree(t, []any{e.x, e.normal(u)}, append(root, k), append(slices.Clone(e.normal(roots[u])), int64(exponents[u])))
			}
			if core != u || e.size(u) > 4 {
				continue
			}
			for v, way := range e.conjugators(u) {
				c, _ := carouselOf(e.x, e.normal(v), 1000)
				mustAgree(t, []any{e.x, e.normal(u), e.normal(v)}, c.wayFrom(e.normal(u)), way)
			}
		}
	})
}

// someElement returns a signed word of one of several kinds, with at most MaxWord signed letters.
func someElement(x *numbers, y impl.Alphabet) []int64 {
	n := int(y.Letters)
	w := someSigned(x, n, 1+x.below(24))
	switch x.below(6) {
	case 0: // with a frame
		f := someSigned(x, n, x.below(12))
		return framed(f, w[:min(len(w), 24-2*len(f))])
	case 1: // a power
		k := 2 + x.below(4)
		return slices.Repeat(w[:min(len(w), 24/k)], k)
	case 2: // a power with a frame
		f, k := someSigned(x, n, x.below(6)), 2+x.below(3)
		return framed(f, slices.Repeat(w[:min(len(w), (24-2*len(f))/k)], k))
	case 3: // a trace
		for i, s := range w {
			w[i] = max(s, -s)
		}
	case 4: // much that cancels
		w = w[:len(w)/2]
		return disguised(x, y, append(w, inverted(w)...), 12)
	}
	return w
}

// someElements calls a function with alphabets, and two words of one element.
func someElements(seed numbers, call func(x *numbers, y impl.Alphabet, u, v []int64)) {
	x := seed
	for _, y := range slices.Concat(testAlphabets(), testAlphabets()) {
		if y.Letters == 0 {
			continue
		}
		u := someElement(&x, y)
		call(&x, y, u, disguised(&x, y, u, 1+x.below(60)))
	}
}

// checkLongElement holds the functions of one signed word against pilings, on a word u, by way of
// another word of its element.
func checkLongElement(t *testing.T, x *numbers, y impl.Alphabet, u, v []int64) {
	t.Helper()
	form := refGroupForm(y, u)
	got, code := impl.GroupForm(y, v)
	mustBe(t, "GroupForm of "+key(y), v, got, code, form)
	got, code = impl.GroupInverse(y, v)
	mustBe(t, "GroupInverse of "+key(y), v, got, code, refGroupForm(y, inverted(u)))
	got, code = impl.ExponentsOf(y, v)
	mustBe(t, "ExponentsOf of "+key(y), v, got, code, refExponents(y, u))
	is, code := impl.IsPositive(y, v)
	mustReport(t, "IsPositive", []any{y, v}, is, code, !slices.ContainsFunc(form, isNegative))
	for _, mask := range []int64{0, 1<<y.Letters - 1, int64(x.below(1 << y.Letters)), int64(x.below(1 << y.Letters))} {
		got, code = impl.RetractOn(y, v, mask)
		mustBe(t, "RetractOn of "+key(y)+key(mask), v, got, code, refGroupForm(y, kept(u, mask)))
	}
	core, frame := refCyclicReduction(y, u)
	gotCore, gotFrame, code := impl.CyclicReduction(y, v)
	mustBe(t, "the core of CyclicReduction of "+key(y), v, gotCore, code, core)
	mustBe(t, "the frame of CyclicReduction of "+key(y), v, gotFrame, code, frame)
	for _, k := range []int64{0, 1, -1, 2, 3, int64(x.below(49) - 24)} {
		factor := u
		if k < 0 {
			factor = inverted(u)
		}
		want := refGroupForm(y, slices.Repeat(factor, int(max(k, -k))))
		got, code = impl.GroupPower(y, v, k)
		mustBeOrFail(t, "GroupPower", []any{y, v, k}, got, code, want, codeIf(len(want) <= 24, impl.ErrLimit))
	}
	lists, code := groupRootCall(y, v)
	if len(form) == 0 {
		mustFailLists(t, "GroupRoot", []any{y, v}, lists, code, impl.ErrState)
	} else {
		root, k := refGroupRoot(y, u)
		mustBeLists(t, "GroupRoot", []any{y, v}, lists, code, [][]int64{root, {k}})
	}
}

func TestElementsOfLongSignedWords(t *testing.T) {
	t.Parallel()
	framedOnes, shorter, powers, empty := 0, 0, 0, 0
	someElements(401, func(x *numbers, y impl.Alphabet, u, v []int64) {
		checkLongElement(t, x, y, u, v)
		_, frame := refCyclicReduction(y, u)
		form := refGroupForm(y, u)
		framedOnes += min(len(frame)/2, 1)
		shorter += min((len(u)-len(form))/4, 1)
		if len(form) == 0 {
			empty++
		} else if _, k := refGroupRoot(y, u); k > 1 && len(form) > 4 {
			powers++
		}
	})
	if framedOnes < 100 || shorter < 200 || powers < 50 || empty < 30 {
		t.Errorf("%d elements have long frames, %d are shorter than their words, %d are powers, and %d are the identity", framedOnes, shorter, powers, empty)
	}
}

// changed returns a signed word in which two signed letters have changed places, or one has changed its
// sign or its letter.
func changed(x *numbers, n int, w []int64) []int64 {
	v := slices.Clone(w)
	if len(v) == 0 {
		return someSigned(x, n, 1)
	}
	i, k := x.below(len(v)), x.below(len(v))
	switch x.below(3) {
	case 0:
		v[i], v[k] = v[k], v[i]
	case 1:
		v[i] = -v[i]
	default:
		v[i] = someSigned(x, n, 1)[0]
	}
	return v
}

func TestPairsOfLongSignedWords(t *testing.T) {
	t.Parallel()
	equal, codes := [2]int{}, map[int64]int{}
	someElements(402, func(x *numbers, y impl.Alphabet, u, v []int64) {
		n := int(y.Letters)
		for _, w := range [][]int64{u, changed(x, n, u), changed(x, n, v), someSigned(x, n, x.below(4)), inverted(v), refGroupForm(y, u)} {
			areEqual := slices.Equal(refGroupForm(y, u), refGroupForm(y, w))
			for _, both := range [][2][]int64{{v, w}, {w, v}} {
				is, code := impl.AreGroupEqual(y, both[0], both[1])
				mustReport(t, "AreGroupEqual", []any{y, both}, is, code, areEqual)
				want := refGroupForm(y, slices.Concat(both[0], both[1]))
				got, code := impl.GroupProduct(y, both[0], both[1])
				mustBeOrFail(t, "GroupProduct", []any{y, both}, got, code, want, codeIf(len(want) <= 24, impl.ErrLimit))
				codes[code]++
			}
			if areEqual {
				equal[1]++
			} else {
				equal[0]++
			}
		}
	})
	if equal[0] < 1000 || equal[1] < 1000 || codes[impl.ErrNone] < 1000 || codes[impl.ErrLimit] < 500 {
		t.Errorf("%v pairs are not equal, and are; the products have the codes %v", equal, codes)
	}
}

func TestForms(t *testing.T) {
	wide, narrow, one := alphabetWith(antichain(8)...), alphabetWith(complete(8)...), alphabetWith(1)
	checkSignedText(t, square(), "GroupForm", impl.GroupForm, []textOfCall{
		{"", "", 0}, {"a", "a", 0}, {"A", "A", 0}, {"D", "D", 0}, {"aA", "", 0}, {"Aa", "", 0}, {"aaA", "a", 0}, {"ca", "ac", 0}, {"Ca", "aC", 0}, {"cA", "Ac", 0}, {"CA", "AC", 0}, {"ba", "ba", 0}, {"BA", "BA", 0},
		// Cancelling two signed letters brings two others together, over independent ones too.
		{"abBA", "", 0}, {"abcCBA", "", 0}, {"acbBAC", "", 0}, {"cabBCA", "", 0}, {"acA", "c", 0}, {"aCcA", "", 0}, {"acbdDCBA", "acbCBA", 0}, {"abdBDA", "", 0}, {"aabBcAA", "c", 0}, {"abA", "abA", 0}, {"abDBdA", "", 0},
		{"acACb", "b", 0}, {"bacCAB", "", 0}, {"acCb", "ab", 0}, {"dbDB", "", 0}, {"dbcCDB", "", 0}, {"dbaDB", "bdaBD", 0}, {"bdaDB", "bdaBD", 0}, {"abcdDCBA", "", 0}, {"abcdABCD", "abcdABCD", 0}, {"aCbBcA", "", 0},
		// The signed letters of one letter never stand beside each other, but those of others do.
		{"dcba", "dcba", 0}, {"DCBA", "DCBA", 0}, {"DB", "BD", 0}, {"dB", "Bd", 0}, {"cbdA", "cbdA", 0}, {"CcBbAa", "", 0},
	})
	checkSignedText(t, wide, "GroupForm", impl.GroupForm, []textOfCall{
		{"hGfEdCbA", "AbCdEfGh", 0}, {"HgFeDcBa", "aBcDeFgH", 0}, {"hgfedcbaHGFEDCBA", "", 0}, {"abcdefghABCDEFGHabcdefgh", "abcdefgh", 0}, {"AbaBAbaBAbaBAbaBAbaBAbaB", "", 0}, {times(24, "H"), times(24, "H"), 0},
		{times(8, "Hga"), times(8, "a") + times(8, "g") + times(8, "H"), 0}, {times(12, "aB"), times(12, "a") + times(12, "B"), 0}, {times(12, "Ba"), times(12, "a") + times(12, "B"), 0},
	})
	checkSignedText(t, narrow, "GroupForm", impl.GroupForm, []textOfCall{
		{"hGfEdCbA", "hGfEdCbA", 0}, {"abcdefghHGFEDCBA", "", 0}, {"hgfedcbaaAABCDEFGHhHhHhH", "", 0}, {times(12, "aA"), "", 0}, {times(12, "Aa"), "", 0}, {times(12, "a") + times(12, "A"), "", 0}, {times(12, "H") + times(12, "h"), "", 0},
		{times(12, "ab"), times(12, "ab"), 0}, {times(12, "aB"), times(12, "aB"), 0}, {times(13, "a") + times(11, "A"), "aa", 0}, {"abcdefghABCDEFGHabcdefgh", "abcdefghABCDEFGHabcdefgh", 0}, {"abcdefghhgfedcbAaBCDEFGH", "abcdefgh", 0},
	})
	checkSignedText(t, one, "GroupForm", impl.GroupForm, []textOfCall{{times(24, "a"), times(24, "a"), 0}, {times(24, "A"), times(24, "A"), 0}, {times(11, "a") + times(13, "A"), "AA", 0}, {"AaAaAaA", "A", 0}})
	for _, s := range allSigned(8) {
		for _, x := range []impl.Alphabet{wide, narrow} {
			got, code := impl.GroupForm(x, []int64{s})
			mustBe(t, "GroupForm", []int64{s}, got, code, []int64{s})
			got, code = impl.GroupForm(x, []int64{s, -s})
			mustBe(t, "GroupForm", []int64{s, -s}, got, code, nil)
		}
	}
}

func TestOrderOfSignedLetters(t *testing.T) {
	// Of independent signed letters, 1 comes before -1, this before 2, 2 before -2, and so on.
	wide := alphabetWith(antichain(8)...)
	order := allSigned(8)
	for i, s := range order {
		for k, r := range order {
			if letterOf(s) == letterOf(r) {
				continue
			}
			got, code := impl.GroupForm(wide, []int64{s, r})
			mustBe(t, "GroupForm", []int64{s, r}, got, code, []int64{order[min(i, k)], order[max(i, k)]})
		}
	}
	// Not of those that are not.
	checkSignedText(t, alphabetWith(3, 7, 6), "GroupForm", impl.GroupForm, []textOfCall{{"Ca", "aC", 0}, {"cA", "Ac", 0}, {"Cba", "Cba", 0}, {"CAB", "ACB", 0}, {"CaB", "aCB", 0}, {"bCA", "bAC", 0}, {"BcAb", "BAcb", 0}})
}

func TestSignedWordsThatAreEqual(t *testing.T) {
	checkSignedTexts(t, square(), "AreGroupEqual", answers(impl.AreGroupEqual), []textsOfPair{
		{"", "", truly, 0}, {"", "aA", truly, 0}, {"aA", "", truly, 0}, {"caC", "a", truly, 0}, {"a", "A", "", 0}, {"a", "", "", 0}, {"", "a", "", 0}, {"ac", "ca", truly, 0}, {"aC", "Ca", truly, 0}, {"aC", "cA", "", 0},
		{"abAB", "", "", 0}, {"acAC", "", truly, 0}, {"ab", "ba", "", 0}, {"abA", "b", "", 0}, {"abA", "Aba", "", 0}, {"abcd", "dcba", "", 0}, {"abBa", "aa", truly, 0}, {"bdac", "dbca", truly, 0}, {"acbd", "bdac", "", 0},
		{"aabb", "abab", "", 0}, {"abABab", "ab", "", 0}, {"abBAab", "ab", truly, 0}, {"abC", "abCdD", truly, 0}, {times(12, "ab"), times(12, "ab"), truly, 0}, {times(12, "ab"), times(12, "ba"), "", 0},
		{times(12, "aA"), times(12, "bB"), truly, 0}, {times(12, "ab"), times(12, "BA"), "", 0}, {times(24, "a"), times(24, "A"), "", 0}, {times(12, "a") + times(12, "c"), times(12, "ca"), truly, 0}, {times(24, "a"), times(23, "a"), "", 0},
	})
}

func TestProductsOfAboutMaxWordSignedLetters(t *testing.T) {
	one, narrow, wide := alphabetWith(1), alphabetWith(complete(8)...), alphabetWith(antichain(8)...)
	limit := int64(impl.ErrLimit)
	checkSignedTexts(t, one, "GroupProduct", impl.GroupProduct, []textsOfPair{
		{times(12, "a"), times(12, "a"), times(24, "a"), 0}, {times(12, "A"), times(12, "A"), times(24, "A"), 0}, {times(24, "a"), "", times(24, "a"), 0}, {"", times(24, "A"), times(24, "A"), 0}, {times(24, "a"), "a", "", limit},
		{"A", times(24, "A"), "", limit}, {times(24, "a"), "A", times(23, "a"), 0}, {times(24, "a"), times(24, "A"), "", 0}, {times(24, "a"), times(24, "a"), "", limit}, {times(13, "a"), times(12, "a"), "", limit}, {times(24, "A"), times(23, "a"), "A", 0},
	})
	all := "abcdefghabcdefghabcdefgh"
	back := func(text string) string { return refSignedText(inverted(signed(text))) }
	checkSignedTexts(t, narrow, "GroupProduct", impl.GroupProduct, []textsOfPair{
		// Together they have more than MaxWord signed letters, and what is left has just so many, or more.
		{all, back(all), "", 0}, {all, back(all[12:]) + all[:12], all[:12] + all[:12], 0}, {all, back(all[12:]) + all[:11] + "H", all[:12] + all[:11] + "H", 0}, {all, back(all[13:]) + all[:13], "", limit}, {all, back(all[12:]) + all[4:16], all[:12] + all[4:16], 0},
		{all, back(all[13:]) + all[:12], "", limit}, {all, back(all[13:]) + all[2:13], all[:13] + all[2:13], 0}, {all, "H", all[:23], 0}, {all, "a", "", limit}, {"A", all, all[1:], 0}, {"a", all, "", limit}, {all, all, "", limit}, {all[:12], all[:12], all[:12] + all[:12], 0},
		{all[:12] + back(all[:12]), all, all, 0}, {all, times(12, "hH"), all, 0}, {times(12, "Bb"), times(12, "cC"), "", 0}, {all[:13], all[:12], "", limit}, {"abcd", "DCab", "abab", 0},
	})
	checkSignedTexts(t, wide, "GroupProduct", impl.GroupProduct, []textsOfPair{
		{all, back(all), "", 0}, {all, "AAA", "bbbcccdddeeefffggghhh", 0}, {all, "AAAABBBB", "ABcccdddeeefffggghhh", 0}, {all, times(6, "A") + times(6, "B"), "AAABBBcccdddeeefffggghhh", 0},
		{all, times(7, "A") + times(6, "B"), "", limit}, {all, times(5, "A") + times(6, "B"), "AABBBcccdddeeefffggghhh", 0}, {all, times(6, "H"), "aaabbbcccdddeeefffgggHHH", 0}, {all, times(7, "H"), "", limit}, {all, "h", "", limit}, {all, "hH", "aaabbbcccdddeeefffggghhh", 0},
	})
}

func TestInverses(t *testing.T) {
	checkSignedText(t, square(), "GroupInverse", impl.GroupInverse, []textOfCall{
		{"", "", 0}, {"a", "A", 0}, {"A", "a", 0}, {"ab", "BA", 0}, {"ac", "AC", 0}, {"ca", "AC", 0}, {"aC", "Ac", 0}, {"Ac", "aC", 0}, {"aA", "", 0}, {"aAb", "B", 0}, {"abA", "aBA", 0}, {"acbd", "BDAC", 0}, {"bdac", "ACBD", 0},
		{"abcd", "DCBA", 0}, {"bD", "Bd", 0}, {"abBc", "AC", 0}, {times(24, "d"), times(24, "D"), 0}, {times(12, "dD"), "", 0}, {times(12, "ac"), times(12, "A") + times(12, "C"), 0}, {times(12, "ab"), times(12, "BA"), 0},
	})
	all := "hgfedcbahgfedcbahgfedcba"
	checkSignedText(t, alphabetWith(antichain(8)...), "GroupInverse", impl.GroupInverse, []textOfCall{{all, "AAABBBCCCDDDEEEFFFGGGHHH", 0}, {"aBcDeFgH", "AbCdEfGh", 0}})
	checkSignedText(t, alphabetWith(complete(8)...), "GroupInverse", impl.GroupInverse, []textOfCall{{all, times(3, "ABCDEFGH"), 0}, {"aBcDeFgH", "hGfEdCbA", 0}})
}

func TestPowersAndTheirRange(t *testing.T) {
	one, wide, narrow := alphabetWith(1), alphabetWith(antichain(8)...), alphabetWith(complete(8)...)
	limit, tall := int64(impl.ErrLimit), times(11, "a")
	cases := []struct {
		x    impl.Alphabet
		w    string
		k    int64
		want string
		code int64
	}{
		{square(), "ca", 0, "", 0}, {square(), "ca", 1, "ac", 0}, {square(), "ca", -1, "AC", 0}, {square(), "cA", 12, times(12, "A") + times(12, "c"), 0}, {square(), "cA", -12, times(12, "a") + times(12, "C"), 0}, {square(), "ca", 13, "", limit}, {square(), "ca", -13, "", limit},
		{square(), "ab", -2, "BABA", 0}, {square(), "ab", 12, times(12, "ab"), 0}, {square(), "ab", -12, times(12, "BA"), 0}, {square(), "abA", 22, "a" + times(22, "b") + "A", 0}, {square(), "abA", -22, "a" + times(22, "B") + "A", 0}, {square(), "abA", 23, "", limit},
		{square(), "abA", -23, "", limit}, {square(), "", 24, "", 0}, {square(), "", -24, "", 0}, {square(), "", 0, "", 0}, {square(), "aA", 24, "", 0}, {square(), "abBA", -24, "", 0}, {square(), times(12, "aA"), 24, "", 0}, {square(), times(12, "ab"), 2, "", limit},
		{one, "a", 24, times(24, "a"), 0}, {one, "a", -24, times(24, "A"), 0}, {one, "A", 24, times(24, "A"), 0}, {one, "A", -24, times(24, "a"), 0}, {one, "aa", 12, times(24, "a"), 0}, {one, "aa", 13, "", limit}, {one, "AA", -13, "", limit}, {one, "aAa", 24, times(24, "a"), 0},
		{one, times(13, "a") + times(11, "A"), 12, times(24, "a"), 0}, {one, times(13, "a") + times(11, "A"), -13, "", limit}, {one, times(24, "a"), 0, "", 0}, {one, times(24, "a"), 1, times(24, "a"), 0}, {one, times(24, "a"), -1, times(24, "A"), 0}, {one, times(24, "a"), 2, "", limit},
		// The core is short, and the frame long.
		{square(), tall + "b" + times(11, "A"), 1, tall + "b" + times(11, "A"), 0}, {square(), tall + "b" + times(11, "A"), 2, tall + "bb" + times(11, "A"), 0}, {square(), tall + "b" + times(11, "A"), -2, tall + "BB" + times(11, "A"), 0}, {square(), tall + "b" + times(11, "A"), 3, "", limit},
		{square(), tall + "b" + times(11, "A"), -3, "", limit}, {square(), tall + "b" + times(11, "A"), 0, "", 0}, {square(), times(10, "a") + "bd" + times(10, "A"), 2, times(10, "a") + "bbdd" + times(10, "A"), 0}, {square(), times(10, "a") + "bd" + times(10, "A"), 3, "", limit},
		{square(), times(8, "a") + "b" + times(8, "A"), 8, times(8, "a") + times(8, "b") + times(8, "A"), 0}, {square(), times(8, "a") + "b" + times(8, "A"), 9, "", limit}, {square(), times(11, "a") + "c" + times(11, "A"), 24, times(24, "c"), 0}, {square(), tall + "bB" + times(11, "A"), 24, "", 0},
		{square(), tall + "bC" + times(11, "A"), 1, tall + "b" + times(11, "A") + "C", 0}, {square(), tall + "bC" + times(11, "A"), 2, "", limit},
		{wide, "hGfEdCbA", 3, "AAAbbbCCCdddEEEfffGGGhhh", 0}, {wide, "hGfEdCbA", -3, "aaaBBBcccDDDeeeFFFgggHHH", 0}, {wide, "hGfEdCbA", 4, "", limit}, {wide, "hgHG", 24, "", 0}, {narrow, "hGfEdCbA", 3, times(3, "hGfEdCbA"), 0},
		{narrow, "hGfEdCbA", -3, times(3, "aBcDeFgH"), 0}, {narrow, "hGfEdCbA", 4, "", limit}, {narrow, "hgHG", 6, times(6, "hgHG"), 0}, {narrow, "hgHG", 7, "", limit}, {narrow, times(12, "hG"), 24, "", limit}, {narrow, times(12, "hG"), -24, "", limit},
		{impl.Alphabet{}, "", 24, "", 0}, {impl.Alphabet{}, "", -24, "", 0},
	}
	for _, c := range cases {
		got, code := impl.GroupPower(c.x, signed(c.w), c.k)
		mustBeOrFail(t, "GroupPower "+key(c.k), c.w, got, code, signed(c.want), c.code)
	}
	// An exponent that is none comes before too many signed letters, and a word that is none with it.
	for _, x := range []impl.Alphabet{{}, one, square(), wide, narrow} {
		for _, k := range []int64{25, -25, 26, 48, -48, 1 << 32, 1<<32 + 1, -1 << 32, math.MaxInt64, math.MinInt64, math.MinInt64 + 1} {
			for _, w := range [][]int64{nil, {1}, {1, -1}, slices.Repeat([]int64{1}, 24), slices.Repeat([]int64{1}, 25), {0}} {
				got, code := impl.GroupPower(x, w, k)
				mustFail(t, "GroupPower "+key(k), w, got, code, impl.ErrRange)
			}
		}
	}
}

func TestExponents(t *testing.T) {
	cases := []struct {
		x    impl.Alphabet
		w    string
		want []int64
	}{
		{square(), "", []int64{0, 0, 0, 0}}, {square(), "abA", []int64{0, 1, 0, 0}}, {square(), "aA", []int64{0, 0, 0, 0}}, {square(), "D", []int64{0, 0, 0, -1}}, {square(), "abAB", []int64{0, 0, 0, 0}}, {square(), "aabBBcdDDD", []int64{2, -1, 1, -2}},
		{square(), times(24, "a"), []int64{24, 0, 0, 0}}, {square(), times(24, "C"), []int64{0, 0, -24, 0}}, {square(), times(12, "bB"), []int64{0, 0, 0, 0}}, {impl.Alphabet{}, "", nil}, {alphabetWith(1), "AAa", []int64{-1}},
		{alphabetWith(antichain(8)...), "hGfEdCbAhGfEdCbAhGfEdCbA", []int64{-3, 3, -3, 3, -3, 3, -3, 3}}, {alphabetWith(complete(8)...), "hGfEdCbAhGfEdCbAhGfEdCbA", []int64{-3, 3, -3, 3, -3, 3, -3, 3}},
	}
	for _, c := range cases {
		got, code := impl.ExponentsOf(c.x, signed(c.w))
		mustBe(t, "ExponentsOf of "+key(c.x), signed(c.w), got, code, c.want)
	}
}

func TestRetracts(t *testing.T) {
	x, narrow := square(), alphabetWith(complete(8)...)
	retracts := []string{"", "", "b", "abA", "C", "C", "bC", "abAC", "", "adAD", "b", "abdAD", "dCD", "adACD", "bdCD", "abdACD"}
	for mask, want := range retracts {
		checkSignedText(t, x, "RetractOn "+key(mask), retractWith(int64(mask)), []textOfCall{{"abdACD", want, 0}})
	}
	checkSignedText(t, x, "RetractOn 1", retractWith(1), []textOfCall{{"abA", "", 0}, {"aba", "aa", 0}, {"bcd", "", 0}, {"abABA", "A", 0}, {times(12, "ab"), times(12, "a"), 0}, {times(24, "c"), "", 0}})
	checkSignedText(t, x, "RetractOn 5", retractWith(5), []textOfCall{{"abcABC", "", 0}, {"cbabCdA", "", 0}, {"cba", "ac", 0}, {"CdA", "AC", 0}, {times(6, "cbad"), times(6, "a") + times(6, "c"), 0}})
	checkSignedText(t, x, "RetractOn 14", retractWith(14), []textOfCall{{"bacAB", "bcB", 0}, {"bacB", "bcB", 0}, {"bdaDB", "", 0}, {"badBD", "", 0}, {"dCaB", "dCB", 0}})
	checkSignedText(t, narrow, "RetractOn 129", retractWith(129), []textOfCall{{"abhBAH", "ahAH", 0}, {"abAhgH", "", 0}, {"hgfedcbaABCDEFGH", "", 0}, {"agAhbH", "", 0}, {"ahgHbA", "", 0}, {"hcHaBA", "", 0}, {times(8, "ahc"), times(8, "ah"), 0}})
	for _, y := range slices.Concat(evenAlphabets(), smallAlphabets()) {
		w := slices.Concat(allSigned(y.Letters), reversed(allSigned(y.Letters)))
		w = w[:min(len(w), 24)]
		got, code := impl.RetractOn(y, w, 1<<y.Letters-1)
		mustBe(t, "RetractOn of "+key(y), w, got, code, refGroupForm(y, w))
		got, code = impl.RetractOn(y, w, 0)
		mustBe(t, "RetractOn of "+key(y), w, got, code, nil)
		for _, mask := range noMasks(int(y.Letters)) {
			for _, v := range [][]int64{w, nil, {y.Letters + 1}, {0}} {
				got, code = impl.RetractOn(y, v, mask)
				mustFail(t, "RetractOn of "+key(mask), v, got, code, impl.ErrRange)
			}
			got, code = impl.RetractOn(impl.Alphabet{Letters: y.Letters + 1, Depends: y.Depends}, w, mask)
			mustFail(t, "RetractOn of "+key(mask), w, got, code, impl.ErrInvalid)
		}
	}
}

func TestPositiveElements(t *testing.T) {
	checkSignedText(t, square(), "IsPositive", answer(impl.IsPositive), []textOfCall{
		{"", truly, 0}, {"a", truly, 0}, {"A", "", 0}, {"D", "", 0}, {"aA", truly, 0}, {"Aa", truly, 0}, {"Aca", truly, 0}, {"Aba", "", 0}, {"abA", "", 0}, {"cAaC", truly, 0}, {"abBA", truly, 0}, {"dBb", truly, 0}, {"bdB", truly, 0},
		{"abcd", truly, 0}, {"abcD", "", 0}, {"Abcd", "", 0}, {"abdBD", truly, 0}, {"aAA", "", 0}, {"aaA", truly, 0}, {times(24, "a"), truly, 0}, {times(24, "A"), "", 0}, {times(12, "aA"), truly, 0}, {times(11, "a") + times(13, "A"), "", 0},
		{times(12, "a") + times(12, "A"), truly, 0}, {times(13, "a") + times(11, "A"), truly, 0}, {times(8, "abB"), truly, 0}, {times(8, "aBb"), truly, 0}, {times(12, "bC"), "", 0}, {"CaAc" + times(5, "b"), truly, 0},
	})
	checkSignedText(t, alphabetWith(antichain(8)...), "IsPositive", answer(impl.IsPositive), []textOfCall{{"ABCDEFGHhgfedcbaabcdefgh", truly, 0}, {"ABCDEFGHabcdefg", "", 0}, {"HhhGggFff", truly, 0}})
	checkSignedText(t, alphabetWith(complete(8)...), "IsPositive", answer(impl.IsPositive), []textOfCall{{"ABCDEFGHhgfedcbaabcdefgh", truly, 0}, {"ABCDEFGHabcdefgh", "", 0}, {"HhhGggFff", truly, 0}})
}

func TestCyclicReductions(t *testing.T) {
	wide, narrow, path := alphabetWith(antichain(8)...), alphabetWith(complete(8)...), evenAlphabets()[11]
	cases := []struct {
		x              impl.Alphabet
		w, core, frame string
	}{
		{square(), "", "", ""}, {square(), "a", "a", ""}, {square(), "A", "A", ""}, {square(), "aa", "aa", ""}, {square(), "aA", "", ""}, {square(), "abBA", "", ""}, {square(), "ab", "ab", ""}, {square(), "aB", "aB", ""}, {square(), "abA", "b", "a"},
		{square(), "Aba", "b", "A"}, {square(), "aBA", "B", "a"}, {square(), "ABa", "B", "A"}, {square(), "abAB", "abAB", ""}, {square(), "abbA", "bb", "a"}, {square(), "acA", "c", ""}, {square(), "abcA", "bc", "a"}, {square(), "abcdCBA", "d", "abc"},
		// Several first letters can be taken, and others only behind them.
		{square(), "acbAC", "b", "ac"}, {square(), "cabCA", "b", "ac"}, {square(), "aCbAc", "b", "aC"}, {square(), "ACBca", "B", "AC"}, {square(), "acbdAC", "bd", "ac"}, {square(), "acbaBCA", "a", "acb"}, {square(), "cabdBDAC", "", ""}, {square(), "dbacBD", "ac", "bd"},
		{square(), "acbCa", "aba", "c"}, {square(), "acbC", "ab", "c"}, {square(), "cabA", "cb", "a"}, {square(), "aabAc", "abc", "a"}, {square(), "aaabAA", "ab", "aa"},
		// A first letter whose inverse is no last letter stays, and what it keeps apart.
		{square(), "abAb", "abAb", ""}, {square(), "aabA", "ab", "a"}, {square(), "abAA", "bA", "a"}, {square(), "abab", "abab", ""}, {square(), "abdA", "bd", "a"}, {square(), "cabAd", "acbAd", ""}, {square(), "cbabCB", "cbabCB", ""},
		{square(), times(11, "a") + "b" + times(11, "A"), "b", times(11, "a")}, {square(), times(11, "a") + "bd" + times(11, "A"), "bd", times(11, "a")}, {square(), times(11, "a") + "c" + times(11, "A"), "c", ""}, {square(), times(12, "ab"), times(12, "ab"), ""}, {square(), times(12, "aA"), "", ""},
		{wide, "hgfHGF", "", ""}, {wide, "hGfEdCbA", "AbCdEfGh", ""}, {wide, times(24, "H"), times(24, "H"), ""}, {narrow, "hgfedcbahABCDEFGH", "h", "hgfedcba"}, {narrow, "hgfedcbABCDEFGH", "A", "hgfedcb"},
		{narrow, "abcdefghgfedcba", "abcdefghgfedcba", ""}, {narrow, times(3, "abAB"), times(3, "abAB"), ""}, {narrow, "h" + times(11, "ab") + "H", times(11, "ab"), "h"}, {narrow, "HhHabh", "ab", "H"},
		{path, "acegbdfhGECA", "bdfh", "aceg"}, {path, "gecabdfhACEG", "bdfh", "aceg"}, {path, "aCeGbdfhgEcA", "bdfh", "aCeG"}, {path, "abcdefghGFEDCBA", "h", "abcdefg"}, {path, "abcABC", "abAcBC", ""}, {path, "acbCA", "b", "ac"},
		{impl.Alphabet{}, "", "", ""}, {alphabetWith(1), "aAa", "a", ""}, {alphabetWith(1), times(24, "A"), times(24, "A"), ""},
	}
	for _, c := range cases {
		core, frame := refCyclicReduction(c.x, signed(c.w))
		mustAgree(t, []any{c.x, c.w, "core"}, core, signed(c.core))
		mustAgree(t, []any{c.x, c.w, "frame"}, frame, signed(c.frame))
		gotCore, gotFrame, code := impl.CyclicReduction(c.x, signed(c.w))
		mustBe(t, "the core of CyclicReduction of "+c.w, nil, gotCore, code, core)
		mustBe(t, "the frame of CyclicReduction of "+c.w, nil, gotFrame, code, frame)
	}
	for _, s := range allSigned(8) {
		for _, x := range []impl.Alphabet{wide, narrow, path} {
			lists, code := coreCall(x, []int64{s})
			mustBeLists(t, "CyclicReduction", s, lists, code, [][]int64{{s}, {}})
		}
	}
}

func TestConjugateElements(t *testing.T) {
	wide, narrow, path := alphabetWith(antichain(8)...), alphabetWith(complete(8)...), evenAlphabets()[11]
	cases := []struct {
		x          impl.Alphabet
		u, v, want string
		code       int64
	}{
		// With the same core, which both frames lead to or which one of them is.
		{square(), "abA", "b", "a", 0}, {square(), "b", "abA", "A", 0}, {square(), "abA", "cbC", "aC", 0}, {square(), "abA", "abA", "", 0}, {square(), "ab", "ab", "", 0}, {square(), "abBA", "", "", 0}, {square(), "", "", "", 0}, {square(), "cbC", "dcbCD", "D", 0},
		{square(), "acA", "c", "", 0}, {square(), "abcBA", "dcD", "abD", 0}, {square(), "abbA", "cbC", "", no}, {square(), times(11, "a") + "b" + times(11, "A"), times(11, "C") + "b" + times(11, "c"), times(11, "a") + times(11, "c"), 0},
		{square(), times(11, "a") + "b" + times(11, "A"), times(11, "A") + "b" + times(11, "a"), times(22, "a"), 0}, {square(), times(11, "a") + "b" + times(11, "A"), times(10, "a") + "b" + times(10, "A"), "a", 0},
		// With cores that rotations lead to each other.
		{square(), "ab", "ba", "a", 0}, {square(), "ba", "ab", "b", 0}, {square(), "aB", "Ba", "a", 0}, {square(), "AB", "BA", "A", 0}, {square(), "cabC", "ba", "ca", 0}, {square(), "abAB", "bABa", "a", 0}, {square(), "abAB", "ABab", "ab", 0}, {square(), "abAB", "BabA", "abA", 0},
		{square(), "abc", "acb", "ab", 0}, {square(), "acbd", "bdac", "ac", 0}, {square(), "bdac", "acbd", "bd", 0}, {square(), "AcbD", "bDAc", "Ac", 0}, {square(), "acbd", "dcab", "acb", 0}, {square(), "dabD", "cbaC", "daC", 0},
		// Of the shortest ways the smallest one, by the order of signed letters.
		{square(), "aBaB", "BaBa", "a", 0}, {square(), "CaBD", "BDaC", "aC", 0}, {square(), "cABd", "BdAc", "Ac", 0}, {narrow, "abcabd", "abdabc", "abc", 0}, {narrow, "hgHG", "HGhg", "hg", 0}, {narrow, "aHAh", "haHA", "aHA", 0},
		// With the same exponents, but not conjugate.
		{square(), "abAB", "", "", no}, {square(), "", "abAB", "", no}, {square(), "aabb", "abab", "", no}, {square(), "abAB", "baBA", "", no}, {square(), "acbd", "abcd", "", no}, {square(), "abAd", "bd", "", no}, {square(), "abABab", "ab", "", no}, {square(), "aabAAB", "abbABB", "", no},
		{square(), "a", "A", "", no}, {square(), "a", "c", "", no}, {square(), "a", "aa", "", no}, {square(), "aa", "a", "", no}, {square(), "a", "", "", no}, {square(), "", "a", "", no}, {square(), "ac", "aC", "", no}, {wide, "a", "h", "", no},
		{wide, "hgfHGFabc", "cba", "", 0}, {wide, "abc", "abC", "", no}, {wide, times(24, "a"), times(24, "a"), "", 0}, {wide, times(24, "a"), times(24, "A"), "", no}, {narrow, "abcdefghabcdefghabcdefgh", "efghabcdefghabcdefghabcd", "abcd", 0},
		{narrow, "abcdefghabcdefghabcdefgh", "efghabcdefghabcdefghabdc", "", no}, {narrow, "hgfedcbaBCDEFGH", "a", "hgfedcb", 0}, {path, "abcdefg", "gfedcba", "abacbadcbaedcbafedcba", 0},
		{impl.Alphabet{}, "", "", "", 0}, {alphabetWith(1), "a", "aAa", "", 0}, {alphabetWith(1), "a", "A", "", no}, {alphabetWith(1), times(24, "a"), times(23, "a"), "", no},
	}
	for _, c := range cases {
		u, v := signed(c.u), signed(c.v)
		carousel, _ := carouselOf(c.x, v, impl.MaxClass)
		want, areConjugate := carousel.conjugatorFrom(u, v)
		if areConjugate != (c.code == impl.ErrNone) || areConjugate && !slices.Equal(want, refGroupForm(c.x, signed(c.want))) {
			t.Errorf("%v, %v makes %s of %s in %v, and not %s", refSignedText(want), areConjugate, c.u, c.v, c.x, c.want)
		}
		is, code := impl.AreGroupConjugate(c.x, u, v)
		mustReport(t, "AreGroupConjugate", []any{c.x, c.u, c.v}, is, code, areConjugate)
		got, code := impl.GroupConjugator(c.x, u, v)
		mustBeOrFail(t, "GroupConjugator", []any{c.x, c.u, c.v}, got, code, want, c.code)
	}
}

// someRotation returns a word of the core of w after so many rotations.
func someRotation(x *numbers, y impl.Alphabet, w []int64, times int) []int64 {
	core, _ := refCyclicReduction(y, w)
	for range times {
		if list := pilingOf(y, core).bottoms(); len(list) > 0 {
			core = refTurn(y, core, list[x.below(len(list))])
		}
	}
	return disguised(x, y, core, 9)
}

// someFraming returns a word of a core with a frame, which has at most MaxWord signed letters.
func someFraming(x *numbers, y impl.Alphabet, core []int64) []int64 {
	f := someSigned(x, int(y.Letters), x.below(1+(24-len(core))/2))
	return disguised(x, y, framed(f, core), 20)
}

// checkConjugators holds the functions of conjugates against going back, on a word and others, and
// returns how many conjugators need rotations.
func checkConjugators(t *testing.T, c carousel, v []int64, others [][]int64, codes map[int64]int) int {
	t.Helper()
	turned := 0
	for _, u := range others {
		want, areConjugate := c.conjugatorFrom(u, v)
		is, code := impl.AreGroupConjugate(c.x, u, v)
		if !areConjugate && code == impl.ErrLimit {
			continue // the core of u has many rotations
		}
		mustReport(t, "AreGroupConjugate", []any{c.x, u, v}, is, code, areConjugate)
		expected := codeIf(areConjugate, no)
		if len(want) > 24 {
			expected = impl.ErrLimit
		}
		got, code := impl.GroupConjugator(c.x, u, v)
		mustBeOrFail(t, "GroupConjugator", []any{c.x, u, v}, got, code, want, expected)
		codes[code]++
		if core, _ := refCyclicReduction(c.x, u); areConjugate && c.distance[refSignedText(core)] > 0 {
			turned++
		}
	}
	return turned
}

func TestConjugatorsOfLongSignedWords(t *testing.T) {
	t.Parallel()
	codes, turned := map[int64]int{}, 0
	someElements(403, func(x *numbers, y impl.Alphabet, u, v []int64) {
		c, ok := carouselOf(y, u, 100)
		if !ok {
			return
		}
		others := [][]int64{u, inverted(u), changed(x, int(y.Letters), u), someRotation(x, y, u, 1), someRotation(x, y, u, 30), nil}
		for range 3 {
			others = append(others, someFraming(x, y, refGroupForm(y, someRotation(x, y, u, x.below(20)))))
		}
		turned += checkConjugators(t, c, v, others, codes)
	})
	if codes[impl.ErrNone] < 2000 || codes[no] < 500 || turned < 500 {
		t.Errorf("the conjugators have the codes %v, and %d need rotations", codes, turned)
	}
}

func TestConjugatorsOfAboutMaxWordSignedLetters(t *testing.T) {
	// To turn all neighbours round on a path, each letter must rotate once more than the next one.
	path := evenAlphabets()[11]
	cases := []struct {
		u, v string
		size int
	}{
		{times(9, "b") + "abcd" + times(9, "B"), times(9, "c") + "dcba" + times(9, "C"), 24}, {times(10, "b") + "abcd" + times(10, "B"), times(9, "c") + "dcba" + times(9, "C"), 25}, {times(9, "b") + "abcd" + times(9, "B"), times(10, "C") + "dcba" + times(10, "c"), 25},
		{times(10, "b") + "abcd" + times(10, "B"), times(10, "c") + "dcba" + times(10, "C"), 26}, {times(9, "b") + "ABCD" + times(9, "B"), times(8, "c") + "DCBA" + times(8, "C"), 23}, {times(9, "b") + "AbCd" + times(9, "B"), times(9, "C") + "dCbA" + times(9, "c"), 24},
		{"abcdefg", "gfedcba", 21}, {"abcdefgh", "hgfedcba", 28}, {"abcdefgh", "gfedcbah", 21}, {"aBcDeFgH", "HgFeDcBa", 28},
		// The frames alone make it long, or cancel each other.
		{times(11, "a") + "bc" + times(11, "A"), times(11, "A") + "cb" + times(11, "a"), 23}, {times(11, "a") + "bc" + times(11, "A"), times(11, "a") + "cb" + times(11, "A"), 23}, {times(11, "a") + "bc" + times(11, "A"), times(11, "a") + "bc" + times(11, "A"), 0},
	}
	for _, c := range cases {
		u, v := signed(c.u), signed(c.v)
		carousel, _ := carouselOf(path, v, impl.MaxClass)
		want, areConjugate := carousel.conjugatorFrom(u, v)
		if !areConjugate || len(want) != c.size {
			t.Errorf("%s, %v makes %s of %s, and not a word of %d signed letters", refSignedText(want), areConjugate, c.u, c.v, c.size)
		}
		got, code := impl.GroupConjugator(path, u, v)
		mustBeOrFail(t, "GroupConjugator", []any{c.u, c.v}, got, code, want, codeIf(c.size <= 24, impl.ErrLimit))
		is, code := impl.AreGroupConjugate(path, u, v)
		mustReport(t, "AreGroupConjugate", []any{c.u, c.v}, is, code, true)
	}
}

// manyRotations is a signed word and the number of elements to which rotations lead from its core, 0 if
// it is great.
type manyRotations struct {
	x    impl.Alphabet
	text string
	size int
}

// aboutMaxRotations returns signed words whose cores have about MaxClass rotations, or many of them.
func aboutMaxRotations() []manyRotations {
	star := alphabetWhere(8, func(i, k int) bool { return k == 7 }) // h depends on all others
	pairs := groups(true, 2, 2, 2, 2)
	return []manyRotations{
		// With the inverses of some letters in the place of these there are as many as for traces.
		{alphabetWith(5, 10, 85, 42, 20, 40, 68), "EFaaggBFBdcBdBFFBEBB", 999}, {alphabetWith(3, 23, 6, 24, 26), "AAdcAAcdccccAdecebdcccdA", 1001}, {star, "AAAAbbbbCCCCdEFH", 1000}, {star, "aaabbbcccdddeeefffGGGH", 0},
		// With letters that occur in both ways.
		{alphabetWith(67, 3, 124, 12, 52, 52, 69), "bbbddddeFcEfeffGGAbG", 1000}, {alphabetWith(19, 63, 6, 10, 19, 34), "ccccdddeAEBdeAeaffff", 1000}, {alphabetWith(113, 30, 22, 26, 31, 33, 65), "CdbccddddBffGGAeffGG", 1000},
		// Those of several components have one for each choice of rotations of these.
		{pairs, "aabAbcDCDDeefEfgghGHHGh", 1000}, {pairs, "aabAbbccDcDDeeffggHgHGH", 1008}, {pairs, "aaBABccDcDDeefEFggHgHGH", 1050}, {pairs, "aaBABBccdCddEEffefGGhhgh", 1296}, {pairs, "abABcdCDefEFghGH", 256},
		// The frame does not count.
		{pairs, "haaaaabcdddeeefgH", 96}, {star, "bAAAAccccDDDDeFGhB", 1000}, {star, "bAAAAccccDDDDeFFGhB", 0}, {star, "GbAAAAccccDDDDeeFFhBg", 1125},
	}
}

func TestCoresWithAboutMaxClassRotations(t *testing.T) {
	t.Parallel()
	x := numbers(404)
	for _, c := range aboutMaxRotations() {
		w := signed(c.text)
		r, ok := carouselOf(c.x, w, 1300)
		if ok != (c.size > 0) || ok && len(r.normals) != c.size {
			t.Errorf("%v, the core of %s has %d rotations, and not %d", c.x, c.text, len(r.normals), c.size)
		}
		if c.size > 0 && c.size <= impl.MaxClass {
			last := r.normals[len(r.normals)-1]
			codes := map[int64]int{}
			checkConjugators(t, r, w, [][]int64{w, disguised(&x, c.x, w, 50), someRotation(&x, c.x, w, 60), someRotation(&x, c.x, w, 5), last, nil, inverted(w), w[1:], signed("aaaa")}, codes)
			if codes[no] == 0 || codes[impl.ErrNone] < 3 {
				t.Errorf("%v, %s: the conjugators have the codes %v", c.x, c.text, codes)
			}
			continue
		}
		// ErrLimit comes whatever the other word is, and whatever the answer would be.
		for _, v := range [][]int64{w, refGroupForm(c.x, w), inverted(w), nil, {1}, {-1, 1}, someRotation(&x, c.x, w, 1), w[1:], slices.Repeat([]int64{1}, 24)} {
			for _, f := range groupPairCalls()[2:] {
				got, code := f.call(c.x, w, v)
				mustFail(t, f.name+" of "+c.text, v, got, code, impl.ErrLimit)
			}
		}
		// As the other word, it is no reason to fail.
		for _, u := range [][]int64{nil, {1}, {1, -1}, slices.Repeat([]int64{1}, 24), w[:1]} {
			is, code := impl.AreGroupConjugate(c.x, u, w)
			mustReport(t, "AreGroupConjugate", []any{u, c.text}, is, code, false)
			z, code := impl.GroupConjugator(c.x, u, w)
			mustFail(t, "GroupConjugator", u, z, code, no)
		}
	}
}

func TestRootsOfFewSignedLetters(t *testing.T) {
	wide, narrow, pairs := alphabetWith(antichain(8)...), alphabetWith(complete(8)...), groups(true, 2, 2, 2, 2)
	cases := []struct {
		x       impl.Alphabet
		w, root string
		k       int64
	}{
		{square(), "a", "a", 1}, {square(), "A", "A", 1}, {square(), "aa", "a", 2}, {square(), "AAA", "A", 3}, {square(), times(24, "D"), "D", 24}, {square(), "ab", "ab", 1}, {square(), "ac", "ac", 1}, {square(), "aBaB", "aB", 2}, {square(), "BABABA", "BA", 3},
		{square(), "aab", "aab", 1}, {square(), "abAB", "abAB", 1}, {square(), "abABabAB", "abAB", 2}, {square(), "aaCC", "aC", 2}, {square(), "CaCa", "aC", 2}, {square(), "aaC", "aaC", 1}, {square(), "aaCCCC", "aCC", 2}, {square(), "aaaCC", "aaaCC", 1}, {square(), "aAbb", "b", 2},
		// With frames.
		{square(), "abbA", "abA", 2}, {square(), "abA", "abA", 1}, {square(), "aBBBA", "aBA", 3}, {square(), "cabbCA", "acbAC", 2}, {square(), "abcabcA", "abcabcA", 1}, {square(), "abdbdA", "abdA", 2}, {square(), "aabaA", "aab", 1}, {square(), "AbDDbDDa", "AbDDa", 2},
		{square(), times(11, "a") + "bb" + times(11, "A"), times(11, "a") + "b" + times(11, "A"), 2}, {square(), times(8, "a") + times(8, "b") + times(8, "A"), times(8, "a") + "b" + times(8, "A"), 8}, {square(), times(11, "a") + "bd" + times(11, "A"), times(11, "a") + "bd" + times(11, "A"), 1},
		{square(), "acbbdAC", "acbbdAC", 1}, {square(), "acbbddAC", "acbdAC", 2}, {square(), "acbAC", "acbAC", 1},
		// Several components, each of them a power: their exponents have a common divisor or not.
		{pairs, "aBaBcDcDcDcD", "aBcDcD", 2}, {pairs, "CDCDABABCDCD", "ABCDCD", 2}, {pairs, "ABABcdcdcd", "ABABcdcdcd", 1}, {pairs, "abAccBB", "abAccBB", 1}, {pairs, "abbAcddC", "abAcdC", 2}, {pairs, "abbAcdddC", "abbAcdddC", 1}, {pairs, "abbAhhGhhG", "abAhhG", 2},
		{pairs, "AAccEEgg", "AcEg", 2}, {pairs, "AAAcccEEEggg", "AcEg", 3}, {pairs, "AAAcccEEEgg", "AAAcccEEEgg", 1}, {wide, "hGfEdCbAhGfEdCbAhGfEdCbA", "AbCdEfGh", 3}, {wide, times(12, "Ha"), "aH", 12}, {wide, times(18, "B") + times(6, "a"), "aBBB", 6}, {wide, "hHa", "a", 1},
		{narrow, times(12, "hG"), "hG", 12}, {narrow, times(8, "hGA"), "hGA", 8}, {narrow, times(6, "hgHG"), "hgHG", 6}, {narrow, times(3, "hGfEdCbA"), "hGfEdCbA", 3}, {narrow, times(2, "hgfedcbaHGFE"), "hgfedcbaHGFE", 2}, {narrow, times(11, "hG") + "gh", times(10, "hG") + "hh", 1},
		{narrow, "HG" + times(10, "ab") + "gh", "HGabgh", 10}, {narrow, "HG" + times(10, "hb") + "gh", "HGhbgh", 10}, {alphabetWith(1), times(24, "A"), "A", 24}, {alphabetWith(1), times(13, "a") + times(11, "A"), "a", 2}, {alphabetWith(1), "aAa", "a", 1},
	}
	for _, c := range cases {
		root, k := refGroupRoot(c.x, signed(c.w))
		mustAgree(t, []any{c.x, c.w}, append(root, k), append(refGroupForm(c.x, signed(c.root)), c.k))
		lists, code := groupRootCall(c.x, signed(c.w))
		mustBeLists(t, "GroupRoot", c.w, lists, code, [][]int64{root[:len(root):len(root)], {k}})
	}
	for _, x := range slices.Concat(evenAlphabets(), smallAlphabets()) {
		for _, w := range []string{"", "aA", "Aa", "abBA", times(12, "aA"), "abcdDCBA", times(12, "a") + times(12, "A")} {
			if refIsSignedWord(x, signed(w)) {
				lists, code := groupRootCall(x, signed(w))
				mustFailLists(t, "GroupRoot", []any{x, w}, lists, code, impl.ErrState)
			}
		}
	}
}

func TestNumbersOfShortElements(t *testing.T) {
	t.Parallel()
	count := func(e elements) {
		numbers := make([]int64, e.length+1)
		for u := range e.classes {
			numbers[e.size(u)]++
		}
		for n, want := range numbers {
			number, code := impl.CountElements(e.x, int64(n))
			mustBeNumber(t, "CountElements", []any{e.x, n}, number, code, want)
		}
	}
	shortElements(t, [5]int{4, 10, 6, 4, 3}, count)
	for _, x := range slices.Concat(leastOnes(t, 3), leastOnes(t, 4)) {
		count(elementsOf(t, x, 8-int(x.Letters)))
	}
}

func TestNumbersOfManyElements(t *testing.T) {
	codes := map[int64]int{}
	for _, x := range testAlphabets() {
		numbers, series := refNumbersOfElements(x), refSeriesOfElements(refPolynomial(x), 24)
		for n := range 25 {
			if series[n].Cmp(big.NewInt(numbers[n])) != 0 && (numbers[n] != tooMany || series[n].Cmp(big.NewInt(tooMany)) < 0) {
				t.Fatalf("%v has %d elements with length %d by steps, and %v by the series", x, numbers[n], n, series[n])
			}
			number, code := impl.CountElements(x, int64(n))
			mustCount(t, "CountElements", []any{x, n}, number, code, numbers[n], codeIf(numbers[n] <= impl.MaxCount, impl.ErrLimit))
			codes[code]++
		}
	}
	if codes[impl.ErrNone] < 4000 || codes[impl.ErrLimit] < 1000 {
		t.Errorf("the numbers have the codes %v", codes)
	}
}

func TestNumbersOfElementsOfAboutMaxCount(t *testing.T) {
	cases := []struct {
		x     impl.Alphabet
		n     int64
		total int64
	}{
		// Of all alphabets and lengths none has exactly MaxCount elements, as a search through all has shown:
		// these two come nearest.
		{alphabetWith(3, 127, 14, 126, 26, 106, 106), 15, 999055556303606}, {alphabetWith(1, 6, 254, 28, 60, 244, 228, 228), 15, 1000445048981680},
		{alphabetWith(complete(8)...), 13, 2075941406250000}, {alphabetWith(complete(8)...), 12, 138396093750000}, {alphabetWith(complete(2)...), 24, 376572715308}, {alphabetWith(antichain(8)...), 24, 244396544},
	}
	for _, c := range cases {
		total := refSeriesOfElements(refPolynomial(c.x), int(c.n))[c.n]
		if c.total > 0 && total.Cmp(big.NewInt(c.total)) != 0 {
			t.Errorf("%v has %v elements with length %d", c.x, total, c.n)
		}
		for n := range int64(25) {
			want := refSeriesOfElements(refPolynomial(c.x), int(n))[n]
			number, code := impl.CountElements(c.x, n)
			mustCount(t, "CountElements", []any{c.x, n}, number, code, want.Int64(), codeIf(want.Cmp(big.NewInt(impl.MaxCount)) <= 0, impl.ErrLimit))
		}
	}
}

// elementsOfIndependent returns the number of elements with length n of independent letters: some of
// these occur, each one with an exponent that is not 0.
func elementsOfIndependent(letters, n int64) int64 {
	if n == 0 {
		return 1
	}
	sum := int64(0)
	for k := int64(1); k <= letters; k++ {
		choices := new(big.Int).Binomial(letters, k).Int64() << k
		sum += choices * new(big.Int).Binomial(n-1, k-1).Int64()
	}
	return sum
}

func TestNumbersOfElementsOfOneKind(t *testing.T) {
	for letters := range int64(9) {
		wide, narrow := alphabetWith(antichain(int(letters))...), alphabetWith(complete(int(letters))...)
		power := big.NewInt(1)
		for n := int64(0); n <= 24; n++ {
			number, code := impl.CountElements(wide, n)
			mustBeNumber(t, "CountElements of independent letters", []any{letters, n}, number, code, elementsOfIndependent(letters, n))
			// With dependent ones, each signed letter but the inverse of the last one can come next.
			number, code = impl.CountElements(narrow, n)
			expected := codeIf(power.Cmp(big.NewInt(impl.MaxCount)) <= 0, impl.ErrLimit)
			mustCount(t, "CountElements of dependent letters", []any{letters, n}, number, code, power.Int64(), expected)
			power.Mul(power, big.NewInt(max(2*letters-min(n, 1), 0)))
		}
	}
}

func TestLengthsThatAreRefusedForElements(t *testing.T) {
	for _, x := range slices.Concat(evenAlphabets(), smallAlphabets()) {
		for _, n := range []int64{-1, -24, 25, 26, 1 << 32, 1<<32 + 3, math.MaxInt64, math.MinInt64} {
			number, code := impl.CountElements(x, n)
			mustCount(t, "CountElements", []any{x, n}, number, code, 0, impl.ErrRange)
		}
	}
	for _, x := range notAlphabets() {
		for _, n := range []int64{0, 1, 24, -1, 25, math.MaxInt64, math.MinInt64} {
			number, code := impl.CountElements(x, n)
			mustCount(t, "CountElements", n, number, code, 0, impl.ErrInvalid)
		}
	}
}

func TestGroupsOfEmptyWords(t *testing.T) {
	for _, x := range slices.Concat(evenAlphabets(), smallAlphabets(), []impl.Alphabet{{Depends: []int64{}}}) {
		for _, w := range [][]int64{nil, {}} {
			for _, k := range []int64{0, 1, -1, 24, -24} {
				for _, f := range groupCalls(nil, k, 1<<x.Letters-1) {
					got, code := f.call(x, w)
					switch f.name {
					case "GroupRoot":
						mustFailLists(t, f.name, x, got, code, impl.ErrState)
					case "AreGroupEqual", "IsPositive", "AreGroupConjugate":
						mustBeLists(t, f.name, x, got, code, [][]int64{{1}})
					case "ExponentsOf":
						exponents := slices.Concat(got...)
						mustBe(t, f.name, nil, exponents, code, make([]int64, x.Letters))
					default:
						mustFailLists(t, f.name, x, got, code, impl.ErrNone)
					}
				}
			}
		}
	}
}

func TestInvalidAlphabetsOfGroups(t *testing.T) {
	// ErrInvalid comes before ErrRange, before ErrLimit and before the other errors.
	lists := [][]int64{nil, {1}, {1, -1}, {2}, {0}, {9}, {math.MinInt64}, slices.Repeat([]int64{1}, 24), slices.Repeat([]int64{1}, 25), signed("aaaaabbbcddddeeefggghhhh")}
	for _, x := range notAlphabets() {
		for _, w := range lists {
			for _, f := range slices.Concat(groupCalls(nil, 0, 0), groupCalls(w, -25, -1), groupCalls([]int64{1}, 24, 1), groupCalls([]int64{0}, 25, 1<<8)) {
				got, code := f.call(x, w)
				mustFailLists(t, f.name, x.Depends[:min(len(x.Depends), 9)], got, code, impl.ErrInvalid)
			}
		}
	}
}

func TestSignedWordsThatAreRefused(t *testing.T) {
	// ErrRange comes before ErrLimit and before the other errors, whichever word is none.
	for _, x := range []impl.Alphabet{{}, alphabetWith(1), square(), alphabetWith(antichain(8)...), alphabetWith(complete(8)...), groups(true, 2, 2, 2, 2)} {
		for _, w := range notSignedWords(x.Letters) {
			for _, v := range [][]int64{nil, {1}, {-1}, {1, -1}, slices.Repeat([]int64{1}, 24), signed("aaaaabbbcddddeeefggghhhh"), w} {
				for _, f := range slices.Concat(groupCalls(v, 24, 0), groupCalls(v, 25, -1), groupCalls(v, -2, 1)) {
					got, code := f.call(x, w)
					mustFailLists(t, f.name, w[:min(len(w), 30)], got, code, impl.ErrRange)
				}
			}
		}
	}
}

func TestOrderOfErrorsOfGroups(t *testing.T) {
	// Of a core with too many rotations, ErrLimit comes before ErrNotFound, and is told of u alone.
	pairs, many := groups(true, 2, 2, 2, 2), "aaaaabcccccdeeeeefgggggh"
	limit := int64(impl.ErrLimit)
	checkSignedTexts(t, pairs, "GroupConjugator", impl.GroupConjugator, []textsOfPair{{many, "", "", limit}, {many, "a", "", limit}, {"", many, "", no}, {"a", many, "", no}})
	checkSignedTexts(t, pairs, "AreGroupConjugate", answers(impl.AreGroupConjugate), []textsOfPair{{many, "", "", limit}, {many, "a", "", limit}, {"", many, "", 0}, {"a", many, "", 0}})
	// Of a core with few rotations, ErrNotFound comes before a conjugator that is too long.
	checkSignedTexts(t, evenAlphabets()[11], "GroupConjugator", impl.GroupConjugator, []textsOfPair{{"abcdefgh", "hgfedcba", "", limit}, {"abcdefgh", "hgfedcbaa", "", no}, {"abcdefgh", "HGFEDCBA", "", no}})
	// Whichever of two words is none, or both.
	for _, list := range [][2][]int64{{{0}, {5}}, {{0}, nil}, {nil, {0}}, {{1}, {-5}}} {
		for _, f := range groupPairCalls() {
			got, code := f.call(square(), list[0], list[1])
			mustFail(t, f.name, list[0], got, code, impl.ErrRange)
			got, code = f.call(alphabetWith(1, 3), list[0], list[1])
			mustFail(t, f.name, list[0], got, code, impl.ErrInvalid)
		}
	}
	// The identity is told for all words of it, and only for them.
	for _, text := range []string{"aA", "abBA", "acAC", "acbBCA", "bdBD"} {
		lists, code := groupRootCall(square(), signed(text))
		mustFailLists(t, "GroupRoot", text, lists, code, impl.ErrState)
		lists, code = groupRootCall(square(), signed(text+"a"))
		mustBeLists(t, "GroupRoot", text+"a", lists, code, [][]int64{{1}, {1}})
	}
}

func TestGroupsAreTheSameForAllWords(t *testing.T) {
	t.Parallel()
	compared := 0
	someElements(405, func(x *numbers, y impl.Alphabet, u, v []int64) {
		other := someFraming(x, y, refGroupForm(y, someRotation(x, y, u, x.below(20))))
		again := disguised(x, y, other, 1+x.below(60))
		k, mask := int64(x.below(9)-4), int64(1)<<y.Letters-1
		first, second := groupCalls(other, k, mask), groupCalls(again, k, mask)
		for i, f := range first {
			want, wantCode := f.call(y, u)
			got, code := second[i].call(y, v)
			if code != wantCode || !areEqualLists(got, want) {
				t.Errorf("%s(%v, %v) = %v, %d, and not %v, %d", f.name, y, v, got, code, want, wantCode)
			}
			compared++
		}
	})
	if compared < 5000 {
		t.Errorf("only %d results were compared", compared)
	}
}

// mustForm returns the normal form of the element of w.
func mustForm(t *testing.T, x impl.Alphabet, w []int64) []int64 {
	t.Helper()
	form, code := impl.GroupForm(x, w)
	return mustList(t, "GroupForm", form, code)
}

func TestPromise3OnSignedWords(t *testing.T) {
	someElements(406, func(x *numbers, y impl.Alphabet, u, v []int64) {
		for _, w := range [][]int64{u, v, mustForm(t, y, u)} {
			text, code := impl.SignedText(w)
			mustList(t, "SignedText", nil, code)
			checkTextOfSigned(t, text, w)
		}
	})
}

func TestPromise9OnProducts(t *testing.T) {
	t.Parallel()
	codes := map[int64]int{}
	someElements(407, func(x *numbers, y impl.Alphabet, u, v []int64) {
		n := int(y.Letters)
		w, z := someSigned(x, n, x.below(12)), someElement(x, y)
		if x.below(2) == 0 { // what cancels with it
			w = append(inverted(u[len(u)/2:]), w...)
			w = w[:min(len(w), 24)]
		}
		left, leftCode := impl.GroupProduct(y, u, w)
		right, rightCode := impl.GroupProduct(y, w, z)
		if leftCode == impl.ErrNone && rightCode == impl.ErrNone {
			all, code := impl.GroupProduct(y, left, z)
			same, sameCode := impl.GroupProduct(y, v, right)
			if code != sameCode || !slices.Equal(all, same) {
				t.Errorf("the products of %v, %v and %v in %v are %v, %d and %v, %d", u, w, z, y, all, code, same, sameCode)
			}
			codes[code]++
		}
		form := mustForm(t, y, u)
		mustAgree(t, []any{y, u}, mustForm(t, y, form), form)
		mustAgree(t, []any{y, u}, mustHave(t, impl.GroupProduct, y, v, nil), form)
		mustAgree(t, []any{y, u}, mustHave(t, impl.GroupProduct, y, nil, v), form)
		inverse, code := impl.GroupInverse(y, v)
		mustList(t, "GroupInverse", inverse, code)
		mustAgree(t, []any{y, u}, mustHave(t, impl.GroupProduct, y, u, inverse), nil)
		mustAgree(t, []any{y, u}, mustHave(t, impl.GroupProduct, y, inverse, u), nil)
		again, code := impl.GroupInverse(y, inverse)
		mustBe(t, "GroupInverse of "+key(y), inverse, again, code, form)
		// The inverse of a product is the product of the inverses, and is as long.
		if leftCode == impl.ErrNone {
			other, _ := impl.GroupInverse(y, w)
			undone, code := impl.GroupInverse(y, left)
			mustBe(t, "GroupInverse of "+key(y), left, undone, code, mustHave(t, impl.GroupProduct, y, other, inverse))
			if len(undone) != len(left) {
				t.Errorf("GroupInverse(%v, %v) = %v", y, left, undone)
			}
		}
		is, code := impl.AreGroupEqual(y, u, z)
		mustReport(t, "AreGroupEqual", []any{y, u, z}, is, code, slices.Equal(form, mustForm(t, y, z)))
	})
	if codes[impl.ErrNone] < 100 || codes[impl.ErrLimit] < 50 {
		t.Errorf("the products of three have the codes %v", codes)
	}
}

// checkLaws reports an error unless exponents and retracts of a product are those of its factors.
func checkLaws(t *testing.T, x impl.Alphabet, u, v []int64, mask int64) {
	t.Helper()
	product, code := impl.GroupProduct(x, u, v)
	if code == impl.ErrLimit {
		return
	}
	first, _ := impl.ExponentsOf(x, u)
	second, _ := impl.ExponentsOf(x, v)
	for a := range first {
		first[a] += second[a]
	}
	both, code := impl.ExponentsOf(x, product)
	mustBe(t, "ExponentsOf of "+key(x), product, both, code, first)
	retract := func(w []int64) []int64 {
		got, code := impl.RetractOn(x, w, mask)
		return mustList(t, "RetractOn", got, code)
	}
	mustAgree(t, []any{x, u, v, mask}, mustHave(t, impl.GroupProduct, x, retract(u), retract(v)), retract(product))
	mustAgree(t, []any{x, u, mask}, retract(retract(u)), retract(u))
}

func TestPromise9OnExponentsAndRetracts(t *testing.T) {
	t.Parallel()
	someElements(408, func(x *numbers, y impl.Alphabet, u, v []int64) {
		w := someElement(x, y)
		for _, both := range [][2][]int64{{u, w[:len(w)/2]}, {v, inverted(u)}, {u[len(u)/2:], w[len(w)/2:]}} {
			checkLaws(t, y, both[0], both[1], int64(x.below(1<<y.Letters)))
		}
		// Positive elements have positive products, and their inverses are not positive.
		is, code := impl.IsPositive(y, v)
		back, backCode := impl.IsPositive(y, inverted(v))
		mustReport(t, "IsPositive of an inverse", []any{y, v}, is && back, max(code, backCode), len(mustForm(t, y, u)) == 0)
	})
}

func TestPromise9OnRoots(t *testing.T) {
	t.Parallel()
	found := 0
	someElements(409, func(x *numbers, y impl.Alphabet, u, v []int64) {
		form := mustForm(t, y, u)
		if len(form) == 0 {
			return
		}
		root, k, code := impl.GroupRoot(y, v)
		mustList(t, "GroupRoot", root, code)
		power, code := impl.GroupPower(y, root, k)
		mustBe(t, "GroupPower of "+key(y)+key(k), root, power, code, form)
		for i := int64(-24); i <= 24; i++ { // powers of the same root have this root, or its inverse
			power, code := impl.GroupPower(y, root, i)
			if i == 0 {
				mustBe(t, "GroupPower 0 of "+key(y), root, power, code, nil)
			}
			if i == 0 || code == impl.ErrLimit {
				continue
			}
			want := root
			if i < 0 {
				want, _ = impl.GroupInverse(y, root)
			}
			got, times, code := impl.GroupRoot(y, power)
			mustBe(t, "GroupRoot of "+key(y), power, append(got, times), code, append(slices.Clone(want), max(i, -i)))
			// They commute, and their products are powers again.
			next, nextCode := impl.GroupPower(y, root, i+1)
			if i < 24 && nextCode == impl.ErrNone {
				mustAgree(t, []any{y, root, i}, mustHave(t, impl.GroupProduct, y, root, power), next)
				mustAgree(t, []any{y, root, i}, mustHave(t, impl.GroupProduct, y, power, root), next)
			}
			found++
		}
	})
	if found < 2000 {
		t.Errorf("only %d powers have roots", found)
	}
}

func TestPromise9OnCores(t *testing.T) {
	t.Parallel()
	framedOnes := 0
	someElements(410, func(x *numbers, y impl.Alphabet, u, v []int64) {
		form := mustForm(t, y, u)
		core, frame, code := impl.CyclicReduction(y, v)
		mustList(t, "CyclicReduction", core, code)
		if len(form) != len(core)+2*len(frame) {
			t.Errorf("CyclicReduction(%v, %v) = %v, %v", y, v, core, frame)
		}
		mustAgree(t, []any{y, u}, mustForm(t, y, framed(frame, core)), form)
		again, rest, code := impl.CyclicReduction(y, core)
		mustBe(t, "the core of CyclicReduction of "+key(y), core, again, code, core)
		mustBe(t, "the frame of CyclicReduction of "+key(y), core, rest, code, nil)
		back, backFrame, code := impl.CyclicReduction(y, inverted(v))
		mustBe(t, "the core of CyclicReduction of "+key(y), inverted(v), back, code, mustForm(t, y, inverted(core)))
		mustBe(t, "the frame of CyclicReduction of "+key(y), inverted(v), backFrame, code, frame)
		framedOnes += min(len(frame), 1)
	})
	if framedOnes < 120 {
		t.Errorf("only %d elements have frames", framedOnes)
	}
}

func TestPromise9OnConjugators(t *testing.T) {
	t.Parallel()
	found := [2]int{}
	someElements(411, func(x *numbers, y impl.Alphabet, u, v []int64) {
		form := mustForm(t, y, u)
		core := someRotation(x, y, u, x.below(30))
		for _, w := range [][]int64{v, someFraming(x, y, refGroupForm(y, core)), someFraming(x, y, refGroupForm(y, core)), inverted(u), changed(x, int(y.Letters), v)} {
			is, code := impl.AreGroupConjugate(y, v, w)
			if code == impl.ErrLimit {
				continue
			}
			mustList(t, "AreGroupConjugate", nil, code)
			g, code := impl.GroupConjugator(y, v, w)
			if !is {
				mustFail(t, "GroupConjugator of "+key(y)+key(w), v, g, code, no)
				found[0]++
			} else if code != impl.ErrLimit {
				mustBe(t, "the element that GroupConjugator makes of "+key(y)+key(w), g, refGroupForm(y, framed(g, w)), code, form)
				found[1]++
			}
			// Whether they are does not depend on which one is the first.
			same, sameCode := impl.AreGroupConjugate(y, w, v)
			if sameCode != impl.ErrLimit || is {
				mustReport(t, "AreGroupConjugate", []any{y, w, v}, same, sameCode, is)
			}
		}
	})
	if found[0] < 300 || found[1] < 1000 {
		t.Errorf("%v pairs are not conjugate, and are", found)
	}
}

func TestPromise25OnElements(t *testing.T) {
	for _, x := range testAlphabets() {
		polynomial, code := impl.CliquePolynomial(x)
		mustList(t, "CliquePolynomial", polynomial, code)
		series := refSeriesOfElements(polynomial, 24)
		for n := range int64(25) {
			number, code := impl.CountElements(x, n)
			expected := codeIf(series[n].Cmp(big.NewInt(impl.MaxCount)) <= 0, impl.ErrLimit)
			mustCount(t, "CountElements", []any{x, n}, number, code, series[n].Int64(), expected)
			// There are at least as many elements as traces.
			if traces, _ := impl.CountTraces(x, n); code == impl.ErrNone && traces > number {
				t.Errorf("CountTraces(%v, %d) = %d, and CountElements = %d", x, n, traces, number)
			}
		}
	}
}

// positive returns a word as a signed word.
func positive(w []int64) []int64 {
	v := slices.Clone(w)
	for i := range v {
		v[i]++
	}
	return v
}

// oneIf returns 1 if something holds, and otherwise 0.
func oneIf(holds bool) int {
	if holds {
		return 1
	}
	return 0
}

// checkTracesInGroup reports an error unless two words are the same trace exactly if they are equal in
// the group, and have there the same normal forms; if wholly, also unless they are conjugate as traces
// exactly if they are so in the group.
func checkTracesInGroup(t *testing.T, x impl.Alphabet, u, v []int64, wholly bool) (areSame, areConjugate bool) {
	t.Helper()
	shown := []any{x, u, v}
	same, code := impl.AreSameTrace(x, u, v)
	mustList(t, "AreSameTrace", nil, code)
	is, code := impl.AreGroupEqual(x, positive(u), positive(v))
	mustReport(t, "AreGroupEqual", shown, is, code, same)
	for _, w := range [][]int64{u, v} {
		mustAgree(t, shown, mustForm(t, x, positive(w)), positive(mustGive(t, x, w)))
		is, code = impl.IsPositive(x, positive(w))
		mustReport(t, "IsPositive", shown, is, code, true)
	}
	if !wholly {
		return same, false
	}
	areConjugate, code = impl.AreConjugate(x, u, v)
	is, groupCode := impl.AreGroupConjugate(x, positive(u), positive(v))
	if groupCode != code || is != areConjugate {
		t.Errorf("AreGroupConjugate(%v, %v, %v) = %v, %d, and the traces: %v, %d", x, u, v, is, groupCode, areConjugate, code)
	}
	z, code := impl.ConjugatorOf(x, u, v)
	g, groupCode := impl.GroupConjugator(x, positive(u), positive(v))
	if groupCode != code || code == impl.ErrNone && !slices.Equal(g, positive(mustGive(t, x, z))) {
		t.Errorf("GroupConjugator(%v, %v, %v) = %v, %d, and of the traces %v, %d", x, u, v, g, groupCode, z, code)
	}
	return same, areConjugate
}

func TestPromise27OnAllShortWords(t *testing.T) {
	t.Parallel()
	same, conjugate := 0, 0
	for _, x := range smallAlphabets() {
		list := wordsUpTo(int(x.Letters), []int{1, 6, 5, 4, 3}[x.Letters])
		for i, u := range list {
			for k, v := range list {
				// Of those with different contents only some, as there are very many.
				areAlike := slices.Equal(refContent(x, u), refContent(x, v))
				if areAlike || (i+k)%23 == 0 {
					areSame, areConjugate := checkTracesInGroup(t, x, u, v, areAlike)
					same += oneIf(areSame)
					conjugate += oneIf(areConjugate)
				}
			}
		}
	}
	if same < 5000 || conjugate < 5000 {
		t.Errorf("%d pairs are the same trace, and %d are conjugate", same, conjugate)
	}
}

func TestPromise27OnLongWords(t *testing.T) {
	t.Parallel()
	found := [2]int{}
	someTraces(412, func(x *numbers, y impl.Alphabet, u, v []int64) {
		w := slices.Clone(v)
		if len(w) > 0 {
			i, k := x.below(len(w)), x.below(len(w))
			w[i], w[k] = w[k], w[i]
		}
		others := [][]int64{v, w, reversed(u), someWord(x, int(y.Letters), len(u))}
		if len(u) > 0 {
			others = append(others, turned(x, y, u, 1+x.below(20)), u[1:])
		}
		for _, other := range others {
			areSame, areConjugate := checkTracesInGroup(t, y, u, other, true)
			found[0] += oneIf(areSame)
			found[1] += oneIf(areConjugate)
		}
		// Products, powers, roots and inverses from the end agree too.
		if product, code := impl.Concatenate(y, u, w); code == impl.ErrNone {
			mustAgree(t, []any{y, u, w}, mustHave(t, impl.GroupProduct, y, positive(u), positive(w)), positive(product))
		}
		inverse, code := impl.GroupInverse(y, positive(u))
		mustBe(t, "GroupInverse of "+key(y), u, inverse, code, mustForm(t, y, inverted(positive(v))))
		if root, k, code := impl.RootOf(y, u); code == impl.ErrNone {
			got, times, code := impl.GroupRoot(y, positive(v))
			mustBe(t, "GroupRoot of "+key(y), u, append(got, times), code, append(positive(root), k))
		}
	})
	if found[0] < 300 || found[1] < 400 {
		t.Errorf("%v pairs are the same trace, and conjugate", found)
	}
}

func TestGroupsAreFast(t *testing.T) {
	wide, narrow, path := alphabetWith(antichain(8)...), alphabetWith(complete(8)...), evenAlphabets()[11]
	star := alphabetWhere(8, func(i, k int) bool { return k == 7 })
	texts := []string{
		"hGfEdCbAhGfEdCbAhGfEdCbA", "aaabbbcccdddeeefffggghhh", "abcdefghabcdefghabcdefgh", times(24, "A"), times(12, "aA"), times(12, "aB"), "ahbhchdhehfhghah", "AAAAbbbbCCCCdEFH", "aaabbbcccdddeeefffgggh",
		times(12, "a") + times(12, "A"), "abcdefghHGFEDCBAabcdefgh", times(11, "h") + "aB" + times(11, "H"), "H", "",
	}
	for _, x := range []impl.Alphabet{wide, narrow, path, star, groups(true, 4, 4), groups(true, 2, 2, 2, 2), groups(false, 2, 2, 2, 2)} {
		for _, text := range texts {
			for _, other := range []string{texts[0], text, ""} {
				for _, f := range groupCalls(signed(other), -24, 85) {
					within(t, f.name, func() { f.call(x, signed(text)) })
				}
			}
		}
		for n := range int64(25) {
			within(t, "CountElements", func() { impl.CountElements(x, n) })
		}
	}
	huge := slices.Repeat([]int64{1}, 5000000)
	for _, f := range groupCalls(huge, math.MaxInt64, 0) {
		within(t, f.name, func() { f.call(wide, huge) })
	}
	within(t, "SignedText", func() { impl.SignedText(huge) })
	within(t, "IsSignedWord", func() { impl.IsSignedWord(wide, huge) })
	within(t, "ParseSigned", func() { impl.ParseSigned(strings.Repeat("aA", 5000000)) })
}

func TestGroupsShareNoMemory(t *testing.T) {
	var lists [][]int64
	for _, text := range []string{"", "a", "aA", "cA", "cabD", "acACbdbd", "abbA", "abA", "dabD", "abcdabcd", "bA", "Ab"} {
		lists = append(lists, signed(text))
	}
	checkMemoryOfLists(t, lists, func(v []int64) []wordCall {
		return slices.Concat(groupCalls(v, 0, 15), groupCalls(v, 1, 5), groupCalls(v, -3, 0))
	})
	for _, list := range lists {
		w, isKept := spacious(list)
		depends, isDependsKept := spacious(square().Depends)
		x := impl.Alphabet{Letters: 4, Depends: depends}
		impl.IsSignedWord(x, w)
		text, _ := impl.SignedText(w)
		impl.CountElements(x, 24)
		if !isKept() || !isDependsKept() {
			t.Errorf("IsSignedWord, SignedText or CountElements changes an argument of %s", text)
		}
		first, _ := impl.ParseSigned(text)
		scribble(first)
		second, code := impl.ParseSigned(text)
		mustBe(t, "ParseSigned", list, second, code, list)
	}
}
