package tests

import (
	"math"
	"slices"
	"strings"
	"testing"
	"time"

	"loop.example/g01094/impl"
)

// areEqualLists reports whether lists of lists are equal.
func areEqualLists(x, y [][]int64) bool { return slices.EqualFunc(x, y, slices.Equal) }

// mustBeLists reports an error unless a call returned these lists and ErrNone.
func mustBeLists(t *testing.T, name string, argument any, got [][]int64, code int64, want [][]int64) {
	t.Helper()
	if code != impl.ErrNone || !areEqualLists(got, want) {
		t.Errorf("%s(%v) = %v, %d, and not %v", name, argument, got, code, want)
	}
}

// mustBeNumber reports an error unless a call returned this number and ErrNone.
func mustBeNumber(t *testing.T, name string, argument any, got, code, want int64) {
	t.Helper()
	if code != impl.ErrNone || got != want {
		t.Errorf("%s(%v) = %d, %d, and not %d", name, argument, got, code, want)
	}
}

// wordCall is a function of chapter 3 from an alphabet and a word, as a function to lists, none if
// the result beside the code is the zero value.
type wordCall struct {
	name string
	call func(x impl.Alphabet, w []int64) ([][]int64, int64)
}

// oneList turns a function to a list into one to lists.
func oneList(call func(impl.Alphabet, []int64) ([]int64, int64)) func(impl.Alphabet, []int64) ([][]int64, int64) {
	return func(x impl.Alphabet, w []int64) ([][]int64, int64) {
		got, code := call(x, w)
		if len(got) == 0 {
			return nil, code
		}
		return [][]int64{got}, code
	}
}

// oneNumber turns a function to a number into one to lists.
func oneNumber(call func(impl.Alphabet, []int64) (int64, int64)) func(impl.Alphabet, []int64) ([][]int64, int64) {
	return oneList(func(x impl.Alphabet, w []int64) ([]int64, int64) {
		got, code := call(x, w)
		if got == 0 {
			return nil, code
		}
		return []int64{got}, code
	})
}

// oneAnswer turns a function to a truth value into one to lists.
func oneAnswer(call func(impl.Alphabet, []int64) (bool, int64)) func(impl.Alphabet, []int64) ([][]int64, int64) {
	return oneNumber(func(x impl.Alphabet, w []int64) (int64, int64) {
		got, code := call(x, w)
		if got {
			return 1, code
		}
		return 0, code
	})
}

// wordCalls returns the functions that are given an alphabet and a word, with v as the other word
// of AreSameTrace, and a mask and a rank.
func wordCalls(v []int64, mask, rank int64) []wordCall {
	return []wordCall{
		{"ContentOf", oneList(impl.ContentOf)}, {"NormalForm", oneList(impl.NormalForm)}, {"FoataForm", oneList(impl.FoataForm)},
		{"AreSameTrace", oneAnswer(func(x impl.Alphabet, w []int64) (bool, int64) { return impl.AreSameTrace(x, w, v) })},
		{"AreSameTrace", oneAnswer(func(x impl.Alphabet, w []int64) (bool, int64) { return impl.AreSameTrace(x, v, w) })},
		{"ProjectionOf", oneList(func(x impl.Alphabet, w []int64) ([]int64, int64) { return impl.ProjectionOf(x, w, mask) })},
		{"PairProjections", impl.PairProjections}, {"NeighboursOf", impl.NeighboursOf}, {"ClassOf", impl.ClassOf},
		{"CountClass", oneNumber(impl.CountClass)}, {"RankInClass", oneNumber(impl.RankInClass)},
		{"WordInClass", oneList(func(x impl.Alphabet, w []int64) ([]int64, int64) { return impl.WordInClass(x, w, rank) })},
		{"ReverseOf", oneList(impl.ReverseOf)},
	}
}

// mustFailLists reports an error unless a call returned this code and nothing beside it.
func mustFailLists(t *testing.T, name string, argument any, got [][]int64, code, want int64) {
	t.Helper()
	if code != want || len(got) != 0 {
		t.Errorf("%s(%v) = %d lists, %d, and not the code %d alone", name, argument, len(got), code, want)
	}
}

func TestConstantsOfWords(t *testing.T) {
	got := []int64{impl.MaxWord, impl.MaxClass, impl.MaxCount}
	mustBe(t, "the constants", nil, got, impl.ErrNone, []int64{24, 1000, 1000000000000000})
}

func TestIsWord(t *testing.T) {
	for n := range 4 {
		x := alphabetWith(complete(n)...)
		for _, w := range wordsUpTo(n+2, 4) {
			for i := range w {
				w[i]-- // so that -1 and n, which are no letters, occur
			}
			if got := impl.IsWord(x, w); got != refIsWord(x, w) {
				t.Fatalf("IsWord(%v, %v) = %v", x, w, got)
			}
		}
	}
	for _, x := range testAlphabets() {
		if !impl.IsWord(x, nil) || !impl.IsWord(x, []int64{}) || impl.IsWord(x, []int64{x.Letters}) || impl.IsWord(x, []int64{-1}) {
			t.Errorf("IsWord is wrong for short words of %v", x)
		}
		if x.Letters > 0 && (!impl.IsWord(x, slices.Repeat([]int64{x.Letters - 1}, 24)) || impl.IsWord(x, make([]int64, 25))) {
			t.Errorf("IsWord is wrong for long words of %v", x)
		}
	}
	for _, x := range notAlphabets() {
		if impl.IsWord(x, nil) || impl.IsWord(x, []int64{0}) || impl.IsWord(x, []int64{-1}) {
			t.Errorf("%v, which is no alphabet, has a word", x.Letters)
		}
	}
}

// notWords returns lists that are not words of n letters.
func notWords(n int64) [][]int64 {
	list := [][]int64{
		{-1}, {n}, {n + 1}, {8}, {24}, {-8}, {64}, {1 << 32}, {math.MaxInt64}, {math.MinInt64}, make([]int64, 25), make([]int64, 100000),
		append(make([]int64, 23), -1), append(make([]int64, 23), n), append([]int64{n}, make([]int64, 23)...), append([]int64{-1}, make([]int64, 24)...),
	}
	if n > 0 {
		list = append(list, []int64{0, n}, []int64{n, 0}, []int64{0, -1, 0}, slices.Repeat([]int64{n - 1}, 25))
	}
	return list
}

func TestWordTexts(t *testing.T) {
	cases := map[string][]int64{
		"-": {}, "a": {0}, "h": {7}, "aca": {0, 2, 0}, "hgfedcba": {7, 6, 5, 4, 3, 2, 1, 0}, "hhh": {7, 7, 7},
		"abcdefghabcdefghabcdefgh": slices.Repeat([]int64{0, 1, 2, 3, 4, 5, 6, 7}, 3), strings.Repeat("h", 24): slices.Repeat([]int64{7}, 24),
	}
	for text, w := range cases {
		checkWordText(t, text, w)
	}
	x := numbers(30)
	for range 500 {
		w := someWord(&x, 8, x.below(25))
		checkWordText(t, refWordText(w), w)
	}
	if text, code := impl.WordText(nil); text != "-" || code != impl.ErrNone {
		t.Errorf("WordText(nil) = %q, %d", text, code)
	}
	for _, w := range notWords(8) {
		if text, code := impl.WordText(w); text != "" || code != impl.ErrRange {
			t.Errorf("WordText(%v) = %q, %d", w[:min(len(w), 30)], text, code)
		}
	}
}

func checkWordText(t *testing.T, text string, w []int64) {
	t.Helper()
	if got, code := impl.WordText(w); got != text || code != impl.ErrNone {
		t.Errorf("WordText(%v) = %q, %d", w, got, code)
	}
	got, code := impl.ParseWord(text)
	mustBe(t, "ParseWord of the text of ", w, got, code, w)
}

func TestTextsOfNoWord(t *testing.T) {
	bad := []string{
		"", " ", "--", "-a", "a-", "a-b", "- ", " -", "-\n", "_", "\u2013", "\u2212", "-\x00", "i", "ai", "ia", "hi", "z", "`", "a`", "A", "aB", "H", "0", "a1",
		" a", "a ", "a b", "a\n", "\na", "a\tb", "a,b", "a\x00", "\x00", "\xff", "a\xff", "\xffa", "\xe1\xbf", "a\xc3", "\xc1\xa1", "\xe0\x81\xa1", "\xed\xa0\x80",
		"а", "ａ", "á", "a\u0301", "\ufeffa", "\ufffd", "\U00010061", "\U0001d41a", "\u0161", "\u0161\u0162",
		strings.Repeat("a", 25), strings.Repeat("h", 25), strings.Repeat("a", 24) + "-", strings.Repeat("a", 24) + " ", strings.Repeat("a", 24) + "\n",
		strings.Repeat("a", 23) + "i", strings.Repeat("a", 23) + "-", strings.Repeat("-", 24), strings.Repeat("a", 100000), strings.Repeat("-", 100000),
		strings.Repeat("\xff", 24), strings.Repeat("á", 12), strings.Repeat("á", 24), strings.Repeat("a", 256), strings.Repeat("a", 257),
	}
	for _, text := range bad {
		got, code := impl.ParseWord(text)
		mustFail(t, "ParseWord", []int64{int64(len(text))}, got, code, impl.ErrSyntax)
		if code != impl.ErrSyntax {
			t.Errorf("the text was %s", quoted(text))
		}
	}
}

func TestAllShortTextsOfWords(t *testing.T) {
	texts := map[string][]int64{}
	for _, w := range wordsUpTo(8, 4) {
		texts[refWordText(w)] = w
	}
	level := []string{""}
	for range 5 {
		var longer []string
		for _, text := range level {
			got, code := impl.ParseWord(text)
			if want, found := texts[text]; found {
				mustBe(t, "ParseWord of the text of ", want, got, code, want)
			} else {
				mustFail(t, "ParseWord of "+quoted(text), nil, got, code, impl.ErrSyntax)
			}
			for _, c := range []byte("-`abhiAH \xff") {
				longer = append(longer, text+string([]byte{c}))
			}
		}
		level = longer
	}
}

// smallAlphabets returns all alphabets with up to 4 letters.
func smallAlphabets() []impl.Alphabet {
	var list []impl.Alphabet
	for n := range 5 {
		list = append(list, allAlphabetsOf(n)...)
	}
	return list
}

// longestFor returns the length of words up to which all words of n letters are tried.
func longestFor(n int64) int { return []int{2, 6, 6, 5, 4}[n] }

func TestDefinitionsOnAllShortWords(t *testing.T) {
	for _, x := range smallAlphabets() {
		for _, w := range wordsUpTo(int(x.Letters), longestFor(x.Letters)) {
			if class := refClass(x, w, 1000); slices.Equal(class[0], w) {
				checkClass(t, x, class)
			}
		}
	}
}

func TestDefinitionsOnSomeWords(t *testing.T) {
	x := numbers(31)
	checked := 0
	for n := 4; n <= 8; n++ {
		for rare := 1; rare <= 4; rare++ {
			for range 12 {
				y := someAlphabet(&x, n, rare)
				if x.below(2) == 0 {
					y = refComplement(y)
				}
				if class := refClass(y, someWord(&x, n, 4+x.below(21)), 120); class != nil {
					checked++
					checkClass(t, y, class)
				}
			}
		}
	}
	if checked < 100 {
		t.Errorf("only %d classes were small enough", checked)
	}
}

// checkClass holds all functions against the definitions on all words of one trace.
func checkClass(t *testing.T, x impl.Alphabet, class [][]int64) {
	t.Helper()
	foata, pairs, content := refFoata(x, class[0]), refPairProjections(x, class[0]), refContent(x, class[0])
	reverse := refExtreme(x, reversed(class[0]), 1)
	if !slices.Equal(class[0], refExtreme(x, class[0], 1)) || !slices.Equal(class[len(class)-1], refExtreme(x, class[0], -1)) {
		t.Fatalf("the least and the greatest word of the trace of %v are not found", class[0])
	}
	for rank, w := range class {
		got, code := impl.NormalForm(x, w)
		mustBe(t, "NormalForm of "+key(x), w, got, code, class[0])
		got, code = impl.FoataForm(x, w)
		mustBe(t, "FoataForm of "+key(x), w, got, code, foata)
		got, code = impl.ContentOf(x, w)
		mustBe(t, "ContentOf of "+key(x), w, got, code, content)
		got, code = impl.ReverseOf(x, w)
		mustBe(t, "ReverseOf of "+key(x), w, got, code, reverse)
		lists, code := impl.PairProjections(x, w)
		mustBeLists(t, "PairProjections of "+key(x), w, lists, code, pairs)
		lists, code = impl.NeighboursOf(x, w)
		mustBeLists(t, "NeighboursOf of "+key(x), w, lists, code, refNeighbours(x, w))
		lists, code = impl.ClassOf(x, w)
		mustBeLists(t, "ClassOf of "+key(x), w, lists, code, class)
		same, code := impl.AreSameTrace(x, w, class[0])
		mustReport(t, "AreSameTrace of "+key(x), w, same, code, true)
		checkRank(t, x, class, rank)
	}
	got, code := impl.WordOfFoata(x, foata)
	mustBe(t, "WordOfFoata of "+key(x), foata, got, code, class[0])
	if !impl.IsFoataForm(x, foata) {
		t.Errorf("IsFoataForm(%v, %v) is false", x, foata)
	}
	got, code = impl.WordOfProjections(x, pairs)
	mustBe(t, "WordOfProjections of "+key(x), nil, got, code, class[0])
	checkProjections(t, x, class)
}

// checkRank holds the functions of ranks against the class on its word with a rank.
func checkRank(t *testing.T, x impl.Alphabet, class [][]int64, rank int) {
	t.Helper()
	w, size := class[rank], int64(len(class))
	n, code := impl.CountClass(x, w)
	mustBeNumber(t, "CountClass of "+key(x), w, n, code, size)
	n, code = impl.RankInClass(x, w)
	mustBeNumber(t, "RankInClass of "+key(x), w, n, code, int64(rank))
	other := class[len(class)-1-rank]
	got, code := impl.WordInClass(x, other, int64(rank))
	mustBe(t, "WordInClass of "+key(x), other, got, code, w)
	for _, none := range []int64{-1, size, size + 1, math.MinInt64, math.MaxInt64} {
		got, code = impl.WordInClass(x, w, none)
		mustFail(t, "WordInClass of "+key(x), w, got, code, impl.ErrRange)
	}
}

// checkProjections holds ProjectionOf against the definition for all sets of letters.
func checkProjections(t *testing.T, x impl.Alphabet, class [][]int64) {
	t.Helper()
	for mask := range int64(1) << x.Letters {
		for _, w := range [][]int64{class[0], class[len(class)/2], class[len(class)-1]} {
			want := refExtreme(x, refProjection(w, mask), 1)
			got, code := impl.ProjectionOf(x, w, mask)
			mustBe(t, "ProjectionOf of "+key(x)+key(mask), w, got, code, want)
		}
	}
	got, code := impl.ProjectionOf(x, class[len(class)-1], 1<<x.Letters-1)
	mustBe(t, "ProjectionOf of "+key(x), class[0], got, code, class[0])
	got, code = impl.ProjectionOf(x, class[0], 0)
	mustBe(t, "ProjectionOf of "+key(x), class[0], got, code, nil)
	for _, mask := range []int64{-1, 1 << x.Letters, 1<<x.Letters | 1, 1 << 24, 1 << 32, math.MaxInt64, math.MinInt64} {
		got, code = impl.ProjectionOf(x, class[0], mask)
		mustFail(t, "ProjectionOf of "+key(x)+key(mask), class[0], got, code, impl.ErrRange)
	}
}

func TestExamplesOfWords(t *testing.T) {
	x, free := square(), alphabetWith(3, 3)
	got, code := impl.NormalForm(x, word("cabd"))
	mustBe(t, "NormalForm", word("cabd"), got, code, word("acbd"))
	got, code = impl.FoataForm(x, word("cabd"))
	mustBe(t, "FoataForm", word("cabd"), got, code, []int64{5, 10})
	got, code = impl.ProjectionOf(x, word("cabd"), 5)
	mustBe(t, "ProjectionOf", word("cabd"), got, code, word("ac"))
	got, code = impl.ReverseOf(x, word("cabd"))
	mustBe(t, "ReverseOf", word("cabd"), got, code, word("bdac"))
	got, code = impl.WordOfProjections(free, words("a", "ba", "b"))
	mustBe(t, "WordOfProjections", nil, got, code, word("ba"))
	lists, code := impl.PairProjections(free, word("ab"))
	mustBeLists(t, "PairProjections", "ab", lists, code, words("a", "ab", "b"))
	lists, code = impl.PairProjections(x, word("cabd"))
	mustBeLists(t, "PairProjections", "cabd", lists, code, words("a", "ab", "ad", "b", "cb", "c", "cd", "d"))
	lists, code = impl.NeighboursOf(x, word("cabd"))
	mustBeLists(t, "NeighboursOf", "cabd", lists, code, words("acbd", "cadb"))
	lists, code = impl.ClassOf(x, word("cab"))
	mustBeLists(t, "ClassOf", "cab", lists, code, words("acb", "cab"))
	n, code := impl.RankInClass(x, word("cab"))
	mustBeNumber(t, "RankInClass", "cab", n, code, 1)
}

func TestLongWords(t *testing.T) {
	one, wide, narrow := alphabetWith(1), alphabetWith(antichain(8)...), alphabetWith(complete(8)...)
	same := make([]int64, 24)
	checkClass(t, one, [][]int64{same})
	checkClass(t, wide, [][]int64{same})
	all := word("hgfedcbaabcdefghhgfedcba")
	checkClass(t, narrow, [][]int64{all})
	got, code := impl.NormalForm(wide, all)
	mustBe(t, "NormalForm", all, got, code, word("aaabbbcccdddeeefffggghhh"))
	got, code = impl.FoataForm(wide, all)
	mustBe(t, "FoataForm", all, got, code, []int64{255, 255, 255})
	got, code = impl.ReverseOf(wide, all)
	mustBe(t, "ReverseOf", all, got, code, word("aaabbbcccdddeeefffggghhh"))
	lists, code := impl.PairProjections(wide, all)
	mustBeLists(t, "PairProjections", all, lists, code, words("aaa", "bbb", "ccc", "ddd", "eee", "fff", "ggg", "hhh"))
	got, code = impl.WordOfProjections(wide, lists)
	mustBe(t, "WordOfProjections", all, got, code, word("aaabbbcccdddeeefffggghhh"))
	lists, code = impl.PairProjections(narrow, all)
	if len(lists) != 36 || code != impl.ErrNone || !slices.Equal(lists[7], word("haahha")) {
		t.Errorf("PairProjections of dependent letters = %v, %d", lists, code)
	}
}

func TestLetterlessAlphabet(t *testing.T) {
	for _, x := range []impl.Alphabet{{}, {Depends: []int64{}}} {
		checkClass(t, x, [][]int64{{}})
		if !impl.IsWord(x, nil) || impl.IsWord(x, []int64{0}) || impl.IsFoataForm(x, []int64{0}) || impl.IsFoataForm(x, []int64{1}) {
			t.Errorf("the alphabet without letters has words with letters, or Foata forms with steps")
		}
		got, code := impl.WordOfProjections(x, [][]int64{{}})
		mustFail(t, "WordOfProjections", nil, got, code, impl.ErrState)
	}
}

// someTraces calls a function with alphabets, and two words that exchanges make of each other.
func someTraces(seed numbers, call func(x *numbers, y impl.Alphabet, u, v []int64)) {
	x := seed
	for _, y := range testAlphabets() {
		if y.Letters == 0 {
			continue
		}
		u := someWord(&x, int(y.Letters), x.below(25))
		call(&x, y, u, exchanged(&x, y, u, 1+x.below(60)))
	}
}

func TestPromise3(t *testing.T) {
	someTraces(32, func(x *numbers, y impl.Alphabet, u, v []int64) {
		normal, code := impl.NormalForm(y, u)
		if code != impl.ErrNone {
			t.Fatalf("NormalForm(%v, %v): code %d", y, u, code)
		}
		got, code := impl.NormalForm(y, v)
		mustBe(t, "NormalForm of "+key(y), v, got, code, normal)
		steps, code := impl.FoataForm(y, v)
		mustBe(t, "FoataForm of "+key(y), v, steps, code, refFoata(y, u))
		got, code = impl.WordOfFoata(y, steps)
		mustBe(t, "WordOfFoata of "+key(y), steps, got, code, normal)
		pairs, code := impl.PairProjections(y, v)
		mustBeLists(t, "PairProjections of "+key(y), v, pairs, code, refPairProjections(y, u))
		got, code = impl.WordOfProjections(y, pairs)
		mustBe(t, "WordOfProjections of "+key(y), v, got, code, normal)
		reverse, code := impl.ReverseOf(y, u)
		mustBe(t, "ReverseOf of "+key(y), u, reverse, code, mustGive(t, y, reversed(v)))
		got, code = impl.ReverseOf(y, reverse)
		mustBe(t, "ReverseOf of "+key(y), reverse, got, code, normal)
		first, firstCode := impl.ClassOf(y, u)
		second, secondCode := impl.ClassOf(y, v)
		if firstCode != secondCode || !areEqualLists(first, second) {
			t.Errorf("ClassOf(%v, %v) and of %v differ", y, u, v)
		}
		if slices.Compare(normal, u) > 0 || slices.Compare(normal, v) > 0 {
			t.Errorf("NormalForm(%v, %v) = %v is not the least one", y, u, normal)
		}
	})
}

// mustGive returns the normal form.
func mustGive(t *testing.T, x impl.Alphabet, w []int64) []int64 {
	t.Helper()
	got, code := impl.NormalForm(x, w)
	if code != impl.ErrNone {
		t.Fatalf("NormalForm(%v, %v): code %d", x, w, code)
	}
	return got
}

// forms are the forms of a word, as texts.
type forms struct{ normal, foata, pairs string }

func formsOf(t *testing.T, x impl.Alphabet, w []int64) forms {
	t.Helper()
	foata, foataCode := impl.FoataForm(x, w)
	pairs, pairsCode := impl.PairProjections(x, w)
	if foataCode != impl.ErrNone || pairsCode != impl.ErrNone {
		t.Fatalf("the forms of %v have the codes %d and %d", w, foataCode, pairsCode)
	}
	return forms{key(mustGive(t, x, w)), key(foata), key(pairs)}
}

// checkForms reports an error unless AreSameTrace and all forms tell whether words are of the same
// trace.
func checkForms(t *testing.T, x impl.Alphabet, u, v []int64, f, g forms, areSame bool) {
	t.Helper()
	if (f.normal == g.normal) != areSame || (f.foata == g.foata) != areSame || (f.pairs == g.pairs) != areSame {
		t.Errorf("the words %v and %v of %v have the forms %v and %v", u, v, x, f, g)
	}
	got, code := impl.AreSameTrace(x, u, v)
	mustReport(t, "AreSameTrace", []any{x, u, v}, got, code, areSame)
}

func TestPromise21OnAllShortWords(t *testing.T) {
	for _, x := range smallAlphabets() {
		list := wordsUpTo(int(x.Letters), []int{2, 4, 4, 4, 3}[x.Letters])
		all := make([]forms, len(list))
		least := make([]string, len(list))
		for i, w := range list {
			all[i], least[i] = formsOf(t, x, w), key(refNormalForm(x, w))
		}
		for i, u := range list {
			for k, v := range list {
				checkForms(t, x, u, v, all[i], all[k], least[i] == least[k])
			}
		}
	}
}

func TestPromise21OnSomeWords(t *testing.T) {
	someTraces(33, func(x *numbers, y impl.Alphabet, u, v []int64) {
		checkForms(t, y, u, v, formsOf(t, y, u), formsOf(t, y, v), true)
		// An exchange of dependent letters makes a word of another trace.
		for i := 1; i < len(v); i++ {
			if v[i-1] != v[i] && related(y.Depends, int(v[i-1]), int(v[i])) {
				w := slices.Clone(v)
				w[i-1], w[i] = v[i], v[i-1]
				checkForms(t, y, u, w, formsOf(t, y, u), formsOf(t, y, w), false)
			}
		}
		if len(v) > 0 {
			shorter := v[:len(v)-1]
			checkForms(t, y, u, shorter, formsOf(t, y, u), formsOf(t, y, shorter), false)
		}
	})
}

// checkSteps holds IsFoataForm and WordOfFoata against the traces by their Foata forms.
func checkSteps(t *testing.T, x impl.Alphabet, traces map[string][]int64, steps []int64) {
	t.Helper()
	want, found := traces[key(steps)]
	if impl.IsFoataForm(x, steps) != found {
		t.Errorf("IsFoataForm(%v, %v) = %v", x, steps, !found)
	}
	got, code := impl.WordOfFoata(x, steps)
	if found {
		mustBe(t, "WordOfFoata of "+key(x), steps, got, code, want)
	} else {
		mustFail(t, "WordOfFoata of "+key(x), steps, got, code, impl.ErrState)
	}
}

func TestAllShortListsOfSteps(t *testing.T) {
	for n := range 4 {
		// The steps of a list of so many have no more letters.
		length := []int{3, 4, 3, 2}[n]
		for _, x := range allAlphabetsOf(n) {
			traces := map[string][]int64{}
			for _, w := range wordsUpTo(n, n*length) {
				if text := key(refFoata(x, w)); traces[text] == nil {
					traces[text] = refNormalForm(x, w)
				}
			}
			for _, steps := range wordsUpTo(1<<n+2, length) {
				for i := range steps {
					steps[i]-- // so that -1 and 1 << n, which are no masks, occur
				}
				checkSteps(t, x, traces, steps)
			}
		}
	}
}

func TestFoataForms(t *testing.T) {
	wide, narrow := alphabetWith(antichain(8)...), alphabetWith(complete(8)...)
	yes := []struct {
		x     impl.Alphabet
		steps []int64
		word  []int64
	}{
		{square(), nil, nil}, {square(), []int64{}, nil}, {square(), []int64{5, 10}, word("acbd")}, {square(), []int64{5, 5, 8}, word("aaccd")},
		{square(), []int64{10, 4}, word("bdc")}, {square(), []int64{8, 1, 2}, word("dab")}, {square(), []int64{8}, word("d")},
		{wide, []int64{255, 255, 255}, word("aaabbbcccdddeeefffggghhh")}, {wide, []int64{255, 240, 128}, word("abcdeeffgghhh")},
		{wide, slices.Repeat([]int64{128}, 24), slices.Repeat([]int64{7}, 24)}, {alphabetWith(1), slices.Repeat([]int64{1}, 24), make([]int64, 24)},
		{narrow, slices.Repeat([]int64{128, 1}, 12), slices.Repeat([]int64{7, 0}, 12)},
	}
	for _, c := range yes {
		if !impl.IsFoataForm(c.x, c.steps) {
			t.Errorf("IsFoataForm(%v, %v) is false", c.x, c.steps)
		}
		got, code := impl.WordOfFoata(c.x, c.steps)
		mustBe(t, "WordOfFoata", c.steps, got, code, c.word)
	}
	no := []struct {
		x     impl.Alphabet
		steps []int64
	}{
		{square(), []int64{0}}, {square(), []int64{5, 0}}, {square(), []int64{0, 5}}, {square(), []int64{5, 0, 10}}, {square(), []int64{3}},
		{square(), []int64{5, 3}}, {square(), []int64{15}}, {square(), []int64{1, 4}}, {square(), []int64{1, 5}}, {square(), []int64{1, 2, 8}},
		{square(), []int64{16}}, {square(), []int64{5, 26}}, {square(), []int64{-1}}, {square(), []int64{5, math.MinInt64}}, {square(), []int64{math.MaxInt64}},
		{square(), []int64{1<<32 | 5}}, {wide, []int64{255, 255, 255, 1}}, {wide, []int64{255, 255, 255, 0}}, {wide, slices.Repeat([]int64{255}, 4)},
		{wide, []int64{256}}, {narrow, slices.Repeat([]int64{1}, 25)}, {narrow, slices.Repeat([]int64{128, 1}, 13)}, {alphabetWith(1), make([]int64, 24)},
		{alphabetWith(1), slices.Repeat([]int64{1}, 25)}, {wide, make([]int64, 25)}, {wide, make([]int64, 100000)}, {wide, slices.Repeat([]int64{255}, 100000)},
	}
	for _, c := range no {
		shown := c.steps[:min(len(c.steps), 30)]
		if impl.IsFoataForm(c.x, c.steps) {
			t.Errorf("IsFoataForm(%v, %v) is true", c.x, shown)
		}
		got, code := impl.WordOfFoata(c.x, c.steps)
		mustFail(t, "WordOfFoata", shown, got, code, impl.ErrState)
	}
}

// changedLists returns lists of lists that differ in one place.
func changedLists(lists [][]int64, n int64) [][][]int64 {
	var list [][][]int64
	add := func(i int, changed []int64) {
		copied := slices.Clone(lists)
		copied[i] = changed
		list = append(list, copied)
	}
	for i, p := range lists {
		list = append(list, slices.Delete(slices.Clone(lists), i, i+1), slices.Insert(slices.Clone(lists), i, p))
		if i > 0 {
			copied := slices.Clone(lists)
			copied[i-1], copied[i] = lists[i], lists[i-1]
			list = append(list, copied)
		}
		for k := range len(p) + 1 {
			for a := int64(-1); a <= n; a++ {
				add(i, slices.Insert(slices.Clone(p), k, a))
				if k < len(p) {
					add(i, slices.Replace(slices.Clone(p), k, k+1, a))
				}
			}
			if k < len(p) {
				add(i, slices.Delete(slices.Clone(p), k, k+1))
			}
		}
	}
	return append(list, slices.Concat(lists, [][]int64{{}}), slices.Concat(lists, [][]int64{{0}}))
}

func TestListsOfProjections(t *testing.T) {
	for n := range 4 {
		for _, x := range allAlphabetsOf(n) {
			traces := map[string][]int64{}
			for _, w := range wordsUpTo(n, 4) {
				text := key(refPairProjections(x, w))
				if traces[text] == nil {
					traces[text] = refNormalForm(x, w)
				}
			}
			for _, w := range wordsUpTo(n, 3) {
				for _, lists := range changedLists(refPairProjections(x, w), x.Letters) {
					got, code := impl.WordOfProjections(x, lists)
					if want, found := traces[key(lists)]; found {
						mustBe(t, "WordOfProjections of "+key(x)+key(lists), nil, got, code, want)
					} else {
						mustFail(t, "WordOfProjections of "+key(x)+key(lists), nil, got, code, impl.ErrState)
					}
				}
			}
		}
	}
}

// repeatedLists returns so many lists of the same letter, which have so many letters.
func repeatedLists(lists, letters int, a int64) [][]int64 {
	var all [][]int64
	for range lists {
		all = append(all, slices.Repeat([]int64{a}, letters))
	}
	return all
}

func TestProjectionsOfNoTrace(t *testing.T) {
	free, three, wide := alphabetWith(3, 3), alphabetWith(7, 7, 7), alphabetWith(antichain(8)...)
	tooLong := words("aaaa", "bbbb", "cccc", "dddd", "eeee", "ffff", "gggg", "hhhh")
	cases := []struct {
		x     impl.Alphabet
		lists [][]int64
	}{
		{free, nil}, {free, words("a")}, {free, words("a", "ab")}, {free, words("a", "ab", "b", "")}, {free, words("", "", "", "")},
		{free, words("ab", "a", "b")}, {free, words("b", "ab", "a")}, {free, words("a", "b", "ab")}, {free, words("a", "bb", "b")},
		{free, words("a", "ab", "bb")}, {free, words("aa", "ab", "b")}, {free, words("a", "ac", "b")}, {free, words("c", "ab", "b")},
		{free, words("", "ab", "b")}, {free, words("a", "", "b")}, {free, words("a", "ab", "")}, {free, [][]int64{{0}, {0, -1}, {-1}}},
		{free, [][]int64{{math.MaxInt64}, {}, {}}}, {free, [][]int64{{}, {math.MinInt64}, {}}}, {free, [][]int64{{1 << 32}, {1 << 32}, {}}},
		{three, words("a", "ab", "ca", "b", "bc", "c")}, // a before b, b before c, c before a
		{three, words("a", "ba", "ac", "b", "cb", "c")}, // the same with c before b and b before a
		{three, words("aa", "aba", "caa", "b", "bc", "c")},
		{wide, tooLong}, {wide, words("aaaa", "bbb", "ccc", "ddd", "eee", "fff", "ggg", "hhh")}, {alphabetWith(1), repeatedLists(1, 25, 0)},
		{alphabetWith(1), repeatedLists(1, 100000, 0)}, {alphabetWith(1), make([][]int64, 100000)}, {impl.Alphabet{}, [][]int64{nil}},
	}
	for i, c := range cases {
		got, code := impl.WordOfProjections(c.x, c.lists)
		mustFail(t, "WordOfProjections", []int64{int64(i)}, got, code, impl.ErrState)
	}
	got, code := impl.WordOfProjections(three, words("a", "ab", "ac", "b", "bc", "c"))
	mustBe(t, "WordOfProjections", nil, got, code, word("abc"))
	got, code = impl.WordOfProjections(alphabetWith(1), repeatedLists(1, 24, 0))
	mustBe(t, "WordOfProjections", nil, got, code, make([]int64, 24))
	got, code = impl.WordOfProjections(free, make([][]int64, 3))
	mustBe(t, "WordOfProjections", nil, got, code, nil)
	got, code = impl.WordOfProjections(impl.Alphabet{}, nil)
	mustBe(t, "WordOfProjections", nil, got, code, nil)
}

func TestClassesOfAboutMaxClass(t *testing.T) {
	apart := alphabetWith(5, 6, 7) // a and b are independent, and c depends on both
	cases := []struct {
		x    impl.Alphabet
		text string
		size int64
	}{
		{apart, "aacccbbbcaaabb", 10}, {alphabetWith(antichain(6)...), "fedcba", 720}, {apart, "bbaaacaabbbcbbbba", 500},
		{apart, "bbaaacaabbbcbaaba", 1000}, {alphabetWith(1, 2), "bbbbbbbbbbaaaa", 1001}, {apart, "aacbbbbbbaaaabbbb", 1001},
		{alphabetWith(antichain(7)...), "gfedcba", 5040}, {alphabetWith(antichain(8)...), "aaabbbcccdddeeefffggghhh", 369398958888960000},
	}
	for _, c := range cases {
		w := word(c.text)
		if count := refCount(c.x, w); count != c.size {
			t.Errorf("the trace of %s has %d words", c.text, count)
		}
		got, code := impl.ClassOf(c.x, w)
		if c.size > 1000 {
			mustFailLists(t, "ClassOf", c.text, got, code, impl.ErrLimit)
		} else {
			mustBeLists(t, "ClassOf", c.text, got, code, refClass(c.x, w, 1000))
		}
		n, code := impl.CountClass(c.x, w)
		if c.size > impl.MaxCount {
			mustFailLists(t, "CountClass", c.text, make([][]int64, n), code, impl.ErrLimit)
		} else {
			mustBeNumber(t, "CountClass", c.text, n, code, c.size)
		}
	}
}

// largeTrace is a word whose trace has very many words.
type largeTrace struct {
	x    impl.Alphabet
	text string
	size int64
}

// largeTraces returns words of traces with more words than can be listed, but not more than
// MaxCount.
func largeTraces() []largeTrace {
	path := alphabetWhere(8, func(i, k int) bool { return k-i == 1 })
	return []largeTrace{
		{square(), "acbdacbdacbdacbdacbdacbd", 4096}, {square(), "acacacacacacbdbdbdbdbdbd", 853776},
		{path, "abcdefghabcdefghabcdefgh", 750325}, {path, "acegbdfhacegbdfhacegbdfh", 18616362637},
		{groups(true, 4, 4), "aebfcgdhaebfcgdhaebfcgdh", 2704156}, {groups(true, 2, 2, 2, 2), "abcdefghhgfedcbaabcdefgh", 2308743493056},
		{alphabetWith(antichain(7)...), "gfedcbagfedcbadcbaaaaaaa", 989461497024000},
		{alphabetWith(1, 2, 4, 56, 24, 40, 64, 128), "gbbbfehagdhgbccccgbcfbge", 997377189000192},
	}
}

// overlargeTraces returns words of traces with more words than MaxCount. No trace is known that has
// exactly so many; the last one here and the last one of largeTraces have the next numbers found.
func overlargeTraces() []largeTrace {
	return []largeTrace{
		{alphabetWith(antichain(8)...), "hgfedcbahgfedcbahgfedcba", 369398958888960000},
		{alphabetWith(antichain(7)...), "gfedcbagfedcbagfedcbaa", 1003801518720000},
		{alphabetWith(1, 2, 4, 8, 48, 48, 64, 128), "bhhcbfdcgaadegbgdaehch", 1003801518720000},
	}
}

func TestLargeCounts(t *testing.T) {
	x := numbers(34)
	for _, c := range largeTraces() {
		w := word(c.text)
		if count := refCount(c.x, w); count != c.size || count > impl.MaxCount {
			t.Errorf("the trace of %s has %d words", c.text, count)
		}
		n, code := impl.CountClass(c.x, w)
		mustBeNumber(t, "CountClass", c.text, n, code, c.size)
		n, code = impl.CountClass(c.x, exchanged(&x, c.x, w, 100))
		mustBeNumber(t, "CountClass", c.text, n, code, c.size)
		lists, code := impl.ClassOf(c.x, w)
		mustFailLists(t, "ClassOf", c.text, lists, code, impl.ErrLimit)
		for _, rank := range []int64{-1, c.size, c.size + 1, impl.MaxCount, math.MaxInt64, math.MinInt64} {
			got, code := impl.WordInClass(c.x, w, rank)
			mustFail(t, "WordInClass", w, got, code, impl.ErrRange)
		}
	}
}

func TestMoreThanMaxCount(t *testing.T) {
	for _, c := range overlargeTraces() {
		w := word(c.text)
		if count := refCount(c.x, w); count != c.size || count <= impl.MaxCount {
			t.Errorf("the trace of %s has %d words", c.text, count)
		}
		normal := mustGive(t, c.x, w)
		for _, v := range [][]int64{w, normal} { // also where the rank itself, 0 for the normal form, is small
			n, code := impl.CountClass(c.x, v)
			mustFail(t, "CountClass", v, make([]int64, n), code, impl.ErrLimit)
			n, code = impl.RankInClass(c.x, v)
			mustFail(t, "RankInClass", v, make([]int64, n), code, impl.ErrLimit)
			for _, rank := range []int64{0, 1, -1, impl.MaxCount - 1, impl.MaxCount, math.MaxInt64, math.MinInt64} {
				got, code := impl.WordInClass(c.x, v, rank)
				mustFail(t, "WordInClass", v, got, code, impl.ErrLimit)
			}
		}
	}
}

func TestRanksInLargeClasses(t *testing.T) {
	x := numbers(35)
	for _, c := range largeTraces() {
		w := word(c.text)
		normal, last := mustGive(t, c.x, w), refExtreme(c.x, w, -1)
		got, code := impl.WordInClass(c.x, w, 0)
		mustBe(t, "WordInClass", w, got, code, normal)
		got, code = impl.WordInClass(c.x, w, c.size-1)
		mustBe(t, "WordInClass", w, got, code, last)
		n, code := impl.RankInClass(c.x, normal)
		mustBeNumber(t, "RankInClass", normal, n, code, 0)
		n, code = impl.RankInClass(c.x, last)
		mustBeNumber(t, "RankInClass", last, n, code, c.size-1)
		before, rank := normal, int64(0)
		for range 8 {
			rank += 1 + int64(x.below(1<<30))<<20%(c.size/10)
			if rank >= c.size {
				break
			}
			got, code := impl.WordInClass(c.x, w, rank)
			if code != impl.ErrNone || slices.Compare(before, got) >= 0 || formsOf(t, c.x, got) != formsOf(t, c.x, w) {
				t.Fatalf("WordInClass(%v, %d) = %v, %d behind %v", w, rank, got, code, before)
			}
			n, code := impl.RankInClass(c.x, got)
			mustBeNumber(t, "RankInClass", got, n, code, rank)
			before = got
		}
	}
}

func TestNextRanks(t *testing.T) {
	x := numbers(36)
	for _, c := range largeTraces()[:4] {
		w := word(c.text)
		for range 5 {
			rank := int64(x.below(1<<31)) % (c.size - 4)
			for k := range int64(4) {
				got, code := impl.WordInClass(c.x, w, rank+k)
				next, nextCode := impl.WordInClass(c.x, w, rank+k+1)
				if code != impl.ErrNone || nextCode != impl.ErrNone || !slices.Equal(refNextWord(c.x, got), next) {
					t.Fatalf("WordInClass(%s, %d) = %v, and behind it %v", c.text, rank+k, got, next)
				}
			}
		}
	}
}

func TestNeighbours(t *testing.T) {
	wide := alphabetWith(antichain(8)...)
	cases := []struct {
		x    impl.Alphabet
		text string
		want [][]int64
	}{
		{square(), "", nil}, {square(), "a", nil}, {square(), "aa", nil}, {square(), "ab", nil}, {square(), "aacc", words("acac")},
		{square(), "acac", words("aacc", "acca", "caac")}, {square(), "acbd", words("acdb", "cabd")}, {wide, "aaaa", nil},
		{wide, "cba", words("bca", "cab")}, {wide, "abcd", words("abdc", "acbd", "bacd")},
	}
	for _, c := range cases {
		got, code := impl.NeighboursOf(c.x, word(c.text))
		mustBeLists(t, "NeighboursOf", c.text, got, code, c.want)
	}
	w := word("hgfedcbahgfedcbahgfedcba")
	got, code := impl.NeighboursOf(wide, w)
	mustBeLists(t, "NeighboursOf", w, got, code, refNeighbours(wide, w))
	if len(got) != 23 {
		t.Errorf("NeighboursOf(%v) has %d words", w, len(got))
	}
}

func TestInvalidAlphabetsOfWords(t *testing.T) {
	// ErrInvalid comes before ErrRange, before ErrLimit and before ErrState.
	lists := [][]int64{nil, {0}, {0, 0}, {-1}, {8}, make([]int64, 24), make([]int64, 25), word("hgfedcbahgfedcbahgfedcba")}
	for _, x := range notAlphabets() {
		shown := x.Depends[:min(len(x.Depends), 9)]
		for _, w := range lists {
			for _, f := range slices.Concat(wordCalls(w, 0, 0), wordCalls([]int64{-1}, -1, -1), wordCalls(nil, math.MaxInt64, math.MaxInt64)) {
				got, code := f.call(x, w)
				mustFailLists(t, f.name, shown, got, code, impl.ErrInvalid)
			}
			if impl.IsFoataForm(x, w) {
				t.Errorf("IsFoataForm(%v, %v) is true", shown, w)
			}
			got, code := impl.WordOfFoata(x, w)
			mustFail(t, "WordOfFoata", shown, got, code, impl.ErrInvalid)
			for _, projections := range [][][]int64{nil, {w}, {nil}, {w, w, w}, {{0}, {0, 1}, {1}}} {
				got, code = impl.WordOfProjections(x, projections)
				mustFail(t, "WordOfProjections", shown, got, code, impl.ErrInvalid)
			}
		}
	}
}

func TestWordsThatAreRefused(t *testing.T) {
	// ErrRange for a word comes before ErrLimit for the words of a trace.
	for _, x := range []impl.Alphabet{{}, alphabetWith(1), square(), alphabetWith(antichain(8)...), alphabetWith(complete(8)...)} {
		for _, w := range notWords(x.Letters) {
			for _, f := range slices.Concat(wordCalls(nil, 0, 0), wordCalls(w, -1, -1), wordCalls([]int64{-1}, 1<<8, math.MaxInt64)) {
				got, code := f.call(x, w)
				mustFailLists(t, f.name, w[:min(len(w), 30)], got, code, impl.ErrRange)
			}
			if impl.IsWord(x, w) {
				t.Errorf("IsWord(%v, %v) is true", x, w[:min(len(w), 30)])
			}
		}
	}
	wide := alphabetWith(antichain(8)...)
	tooLong := append(word("hgfedcbahgfedcbahgfedcba"), 7)
	for _, f := range wordCalls(tooLong, 255, 0) {
		got, code := f.call(wide, tooLong)
		mustFailLists(t, f.name, tooLong, got, code, impl.ErrRange)
	}
}

// within reports an error if a call takes more than a long time.
func within(t *testing.T, name string, call func()) {
	t.Helper()
	ended := make(chan bool)
	go func() {
		call()
		close(ended)
	}()
	select {
	case <-ended:
	case <-time.After(20 * time.Second):
		t.Fatalf("%s takes too long", name)
	}
}

func TestWordsOfLargeClassesAreFast(t *testing.T) {
	wide := alphabetWith(antichain(8)...)
	all := word("hgfedcbahgfedcbahgfedcba")
	for _, f := range wordCalls(reversed(all), 255, 0) {
		within(t, f.name, func() { f.call(wide, all) })
	}
	within(t, "WordOfFoata", func() { impl.WordOfFoata(wide, []int64{255, 255, 255}) })
	within(t, "WordOfProjections", func() { impl.WordOfProjections(wide, repeatedLists(8, 100000, 0)) })
	for _, c := range largeTraces() {
		for _, f := range wordCalls(word(c.text), 3, c.size-1) {
			within(t, f.name, func() { f.call(c.x, word(c.text)) })
		}
	}
}

// scribble overwrites lists with their spare capacity.
func scribble(lists ...[]int64) {
	for _, list := range lists {
		for i := range list[:cap(list)] {
			list[:cap(list)][i] = -5
		}
	}
}

func TestWordsShareNoMemory(t *testing.T) {
	for _, text := range []string{"", "a", "cabd", "acacbdbd", "aacc", "abcdabcd"} {
		depends, isDependsKept := spacious(square().Depends)
		x := impl.Alphabet{Letters: 4, Depends: depends}
		w, isKept := spacious(word(text))
		v, isOtherKept := spacious(word("acbd"))
		for _, f := range wordCalls(v, 5, 0) {
			got, code := f.call(x, w)
			want, wantCode := f.call(x, w)
			for i := range got {
				if code != wantCode || !areEqualLists(got[i:], want[i:]) {
					t.Errorf("%s(%s) = %v, %d, or its lists share memory", f.name, text, got, code)
				}
				scribble(got[i])
			}
			if again, _ := f.call(x, w); !areEqualLists(again, want) || !isDependsKept() || !isKept() || !isOtherKept() {
				t.Fatalf("%s(%s) changes or shares an argument", f.name, text)
			}
		}
		impl.IsWord(x, w)
		impl.WordText(w)
		if !isDependsKept() || !isKept() {
			t.Errorf("IsWord or WordText(%s) changes an argument", text)
		}
	}
}

func TestFormsShareNoMemory(t *testing.T) {
	depends, isDependsKept := spacious(square().Depends)
	x := impl.Alphabet{Letters: 4, Depends: depends}
	steps, areStepsKept := spacious([]int64{5, 10})
	got, _ := impl.WordOfFoata(x, steps)
	scribble(got)
	impl.IsFoataForm(x, steps)
	var projections [][]int64
	var checks []func() bool
	for _, p := range words("a", "ab", "ad", "b", "cb", "c", "cd", "d") {
		p, isKept := spacious(p)
		projections, checks = append(projections, p), append(checks, isKept)
	}
	room := append(slices.Clone(projections), nil, nil)
	got, code := impl.WordOfProjections(x, room[:len(projections)])
	mustBe(t, "WordOfProjections", nil, got, code, word("acbd"))
	scribble(got)
	areListsKept := room[8] == nil && room[9] == nil && areEqualLists(room[:8], words("a", "ab", "ad", "b", "cb", "c", "cd", "d"))
	areListsKept = areListsKept && !slices.ContainsFunc(checks, func(isKept func() bool) bool { return !isKept() })
	if !isDependsKept() || !areStepsKept() || !areListsKept {
		t.Errorf("WordOfFoata, IsFoataForm or WordOfProjections changes or shares an argument")
	}
	text, _ := impl.WordText(word("acbd"))
	first, _ := impl.ParseWord(text)
	scribble(first)
	second, code := impl.ParseWord(text)
	mustBe(t, "ParseWord", nil, second, code, word("acbd"))
}
