package tests

import (
	"cmp"
	"math"
	"slices"
	"testing"

	"loop.example/g01094/impl"
)

// mapCall is a function of chapter 8 from two alphabets and a letter map, as a function to lists, none
// if the result beside the code is the zero value.
type mapCall struct {
	name string
	call func(x, y impl.Alphabet, images [][]int64) ([][]int64, int64)
}

// erased turns ErasedLetters into a function to lists.
func erased(x, y impl.Alphabet, images [][]int64) ([][]int64, int64) {
	return oneNumber(func(x impl.Alphabet, w []int64) (int64, int64) { return impl.ErasedLetters(x, y, images) })(x, nil)
}

// mapCalls returns the functions that are given a letter map, with a word of x, a word of y and a
// number of letters. ComposeMorphisms has another letter map before it or behind it, which leads each
// letter to itself.
func mapCalls(w, v []int64, n int64) []mapCall {
	return []mapCall{
		{"ImageOf", func(x, y impl.Alphabet, images [][]int64) ([][]int64, int64) {
			return oneList(func(x impl.Alphabet, w []int64) ([]int64, int64) { return impl.ImageOf(x, y, images, w) })(x, w)
		}},
		{"ErasedLetters", erased},
		{"CollisionTo", func(x, y impl.Alphabet, images [][]int64) ([][]int64, int64) {
			return impl.CollisionTo(x, y, images, n)
		}},
		{"PreimagesOf", func(x, y impl.Alphabet, images [][]int64) ([][]int64, int64) {
			return impl.PreimagesOf(x, y, images, v)
		}},
		{"ComposeMorphisms", func(x, y impl.Alphabet, images [][]int64) ([][]int64, int64) {
			return impl.ComposeMorphisms(x, y, y, images, lettersOf(y))
		}},
		{"ComposeMorphisms", func(x, y impl.Alphabet, images [][]int64) ([][]int64, int64) {
			return impl.ComposeMorphisms(x, x, y, lettersOf(x), images)
		}},
	}
}

// symmetryCalls returns the functions of symmetries as functions of an alphabet and a word.
func symmetryCalls(symmetry []int64) []wordCall {
	return []wordCall{
		{"SymmetriesOf", func(x impl.Alphabet, w []int64) ([][]int64, int64) { return impl.SymmetriesOf(x) }},
		{"ApplySymmetry", oneList(func(x impl.Alphabet, w []int64) ([]int64, int64) { return impl.ApplySymmetry(x, symmetry, w) })},
		{"OrbitOf", impl.OrbitOf},
	}
}

// mustBeMorphism reports an error unless IsMorphism tells whether images is a morphism.
func mustBeMorphism(t *testing.T, x, y impl.Alphabet, images [][]int64, want bool) {
	t.Helper()
	if got := impl.IsMorphism(x, y, images); got != want {
		t.Errorf("IsMorphism(%v, %v, %v) = %v", x, y, images[:min(len(images), 9)], got)
	}
}

// mustBeListsOrFail reports an error unless a call returned these lists and ErrNone, or another code
// alone.
func mustBeListsOrFail(t *testing.T, name string, arguments any, got [][]int64, code int64, want [][]int64, expected int64) {
	t.Helper()
	if expected == impl.ErrNone {
		mustBeLists(t, name, arguments, got, code, want)
	} else {
		mustFailLists(t, name, arguments, got, code, expected)
	}
}

func TestExamplesOfMorphisms(t *testing.T) {
	free, both, one := alphabetWith(3, 3), alphabetWith(1, 2), alphabetWith(1)
	mustBeMorphism(t, both, free, words("ab", "ab"), true)
	mustBeMorphism(t, both, free, words("a", "b"), false)
	mustBeMorphism(t, free, both, words("a", "b"), true)
	composed, code := impl.ComposeMorphisms(free, free, free, words("ab", "b"), words("b", "a"))
	mustBeLists(t, "ComposeMorphisms", "ab, b", composed, code, words("ba", "a"))
	collision, code := impl.CollisionTo(free, one, words("a", "aa"), 2)
	mustBeLists(t, "CollisionTo", "a, aa", collision, code, words("b", "aa"))
	preimages, code := impl.PreimagesOf(free, one, words("a", "aa"), word("aaa"))
	mustBeLists(t, "PreimagesOf", "a, aa", preimages, code, words("aaa", "ab", "ba"))
	got, code := impl.ApplySymmetry(square(), []int64{1, 0, 3, 2}, word("ac"))
	mustBe(t, "ApplySymmetry", word("ac"), got, code, word("bd"))
	orbit, code := impl.OrbitOf(square(), word("ac"))
	mustBeLists(t, "OrbitOf", "ac", orbit, code, words("ac", "bd"))
	symmetries, code := impl.SymmetriesOf(square())
	mustBeLists(t, "SymmetriesOf", "the square", symmetries, code, words("abcd", "adcb", "badc", "bcda", "cbad", "cdab", "dabc", "dcba"))
}

// check holds all functions of a letter map against the definitions.
func (m shortMap) check(t *testing.T) {
	t.Helper()
	isMorphism := m.isMorphism()
	mustBeMorphism(t, m.from.x, m.to.x, m.images, isMorphism)
	if !isMorphism {
		for _, f := range mapCalls(nil, nil, 0) {
			got, code := f.call(m.from.x, m.to.x, m.images)
			mustFailLists(t, f.name, []any{m.from.x, m.to.x, m.images}, got, code, impl.ErrState)
		}
		return
	}
	for _, class := range m.from.classes {
		for _, w := range class {
			got, code := impl.ImageOf(m.from.x, m.to.x, m.images, w)
			m.to.mustBe(t, "ImageOf", append(slices.Clone(m.images), w), got, code, m.imageOf(w), no)
		}
	}
	for n := range 4 {
		want := m.collision(n)
		got, code := impl.CollisionTo(m.from.x, m.to.x, m.images, int64(n))
		mustBeListsOrFail(t, "CollisionTo", []any{m.from.x, m.to.x, m.images, n}, got, code, want, codeIf(want != nil, no))
	}
	m.checkErased(t)
}

// checkErased holds the functions against the definitions for which it matters that images are empty.
func (m shortMap) checkErased(t *testing.T) {
	t.Helper()
	mask := int64(0)
	for a, image := range m.images {
		if len(image) == 0 {
			mask |= 1 << a
		}
	}
	erased, code := impl.ErasedLetters(m.from.x, m.to.x, m.images)
	mustBeNumber(t, "ErasedLetters", []any{m.from.x, m.to.x, m.images}, erased, code, mask)
	for v, class := range m.to.classes {
		// Traces with longer images have more letters than those that are known.
		if m.to.length(v) > 3 {
			continue
		}
		last := class[len(class)-1] // which is mostly not the normal form
		got, code := impl.PreimagesOf(m.from.x, m.to.x, m.images, last)
		mustBeListsOrFail(t, "PreimagesOf", []any{m.from.x, m.to.x, m.images, last}, got, code, m.preimages(v), codeIf(mask == 0, impl.ErrState))
	}
}

func TestAllShortLetterMaps(t *testing.T) {
	t.Parallel()
	found := map[bool]int{}
	shortMaps(t, func(m shortMap) {
		m.check(t)
		found[m.isMorphism()]++
	})
	if found[true] < 3000 || found[false] < 1000 {
		t.Errorf("%d letter maps are morphisms, and %d are none", found[true], found[false])
	}
}

func TestAllShortComposedMaps(t *testing.T) {
	composed := 0
	list := wordsUpTo(2, 2)
	for _, x := range allAlphabetsOf(2) {
		for _, y := range allAlphabetsOf(2) {
			for _, z := range allAlphabetsOf(2) {
				for _, choice := range allWords(len(list), 4) {
					f, g := joinedLists(list, choice[:2]), joinedLists(list, choice[2:])
					got, code := impl.ComposeMorphisms(x, y, z, f, g)
					want := [][]int64{refExtreme(z, joined(g, f[0]), 1), refExtreme(z, joined(g, f[1]), 1)}
					areMorphisms := refIsMorphism(x, y, f) && refIsMorphism(y, z, g)
					mustBeListsOrFail(t, "ComposeMorphisms", []any{x, y, z, f, g}, got, code, want, codeIf(areMorphisms, impl.ErrState))
					if areMorphisms {
						mustBeMorphism(t, x, z, got, true)
						composed++
					}
				}
			}
		}
	}
	if composed < 5000 {
		t.Errorf("only %d pairs of morphisms were composed", composed)
	}
}

func TestLongLetterMaps(t *testing.T) {
	t.Parallel()
	found, together := map[bool]int{}, 0
	for seed := range numbers(2) {
		someMorphisms(201+seed, 24, func(x *numbers, from, to impl.Alphabet, images [][]int64) {
			mustBeMorphism(t, from, to, images, true)
			for a := range images {
				for b := range a {
					if u, v := images[a], images[b]; !related(from.Depends, a, b) && len(u)+len(v) > 24 && !refAreIndependent(to, u, v) {
						together++
					}
				}
				if len(images[a]) == 0 {
					continue
				}
				changed := slices.Clone(images)
				changed[a] = slices.Clone(images[a])
				changed[a][x.below(len(changed[a]))] = int64(x.below(int(to.Letters)))
				want := refIsMorphism(from, to, changed)
				mustBeMorphism(t, from, to, changed, want)
				found[want]++
			}
		})
	}
	if found[true] < 500 || found[false] < 500 || together < 100 {
		t.Errorf("%d changed letter maps are morphisms, and %d are none; %d images that depend on each other commute and have more than MaxWord letters together", found[true], found[false], together)
	}
}

func TestLettersWhoseImagesCommute(t *testing.T) {
	both, pairs, all := alphabetWith(1, 2), groups(true, 2, 2, 2, 2), "hgfedcbahgfedcbahgfedcba"
	wide, narrow := alphabetWith(antichain(8)...), alphabetWith(complete(8)...)
	cases := []struct {
		y    impl.Alphabet
		u, v string
		want bool
	}{
		{square(), "a", "c", true}, {square(), "a", "b", false}, {square(), "", "abcd", true}, {square(), "", "", true}, {square(), "a", "a", true}, {square(), "ab", "abab", true}, {square(), "ab", "ba", false},
		{square(), "aac", "acccc", true}, {square(), "acb", "cab", true}, {square(), "acb", "cba", false}, {square(), "acbacb", "cab", true}, {square(), "bd", "ac", false}, {square(), times(24, "a"), times(24, "c"), true},
		{square(), times(12, "ab"), times(8, "ab"), true}, {square(), times(12, "ab"), times(12, "ba"), false}, {square(), times(23, "a") + "b", times(24, "a"), false}, {square(), times(23, "a") + "c", times(23, "c") + "a", true},
		// Some components agree up to powers, and others are independent of everything.
		{pairs, "ababcd", "abcdcdcd", true}, {pairs, "ababcd", "abcddc", false}, {pairs, "abef", "ababgh", true}, {pairs, "abef", "bagh", false}, {pairs, "abcde", "hhhh", true}, {pairs, "abcdefgh", "ghghefab", true},
		{pairs, times(6, "abcd"), times(6, "ghcd"), true}, {pairs, times(6, "abcd"), times(6, "ghdc"), false}, {wide, all, "h", true}, {wide, all, all, true}, {narrow, all, all[:8], true}, {narrow, all, all[:9], false}, {narrow, all, "h", false},
	}
	for _, c := range cases {
		if refCommute(c.y, word(c.u), word(c.v)) != c.want {
			t.Errorf("it is not %v that %s and %s commute", c.want, c.u, c.v)
		}
		mustBeMorphism(t, both, c.y, words(c.u, c.v), c.want)
		mustBeMorphism(t, both, c.y, words(c.v, c.u), c.want)
		mustBeMorphism(t, alphabetWith(3, 3), c.y, words(c.u, c.v), true)
		// Of 8 letters only the last ones, or the first and the last one, are independent.
		images := slices.Repeat(words(""), 8)
		images[0], images[6], images[7] = word(c.v), word(c.v), word(c.u)
		mustBeMorphism(t, alphabetWhere(8, func(i, k int) bool { return i != 6 }), c.y, images, c.want)
		mustBeMorphism(t, alphabetWhere(8, func(i, k int) bool { return k-i != 7 }), c.y, images, c.want)
		mustBeMorphism(t, narrow, c.y, images, true)
	}
}

func TestMapsOfNoLetters(t *testing.T) {
	none := impl.Alphabet{}
	for _, y := range slices.Concat(evenAlphabets(), smallAlphabets(), []impl.Alphabet{{Depends: []int64{}}}) {
		for _, images := range [][][]int64{nil, {}} {
			mustBeMorphism(t, none, y, images, true)
			for _, n := range []int64{0, 1, 24} {
				for _, f := range mapCalls(nil, nil, n) {
					got, code := f.call(none, y, images)
					switch f.name {
					case "CollisionTo":
						mustFailLists(t, f.name, y, got, code, no)
					case "PreimagesOf":
						mustBeLists(t, f.name, y, got, code, [][]int64{{}})
					default:
						mustFailLists(t, f.name, y, got, code, impl.ErrNone)
					}
				}
			}
			if y.Letters > 0 {
				got, code := impl.PreimagesOf(none, y, images, []int64{0})
				mustBeLists(t, "PreimagesOf", y, got, code, nil)
			}
		}
		// All letters of an alphabet can be erased, and must be where there are no others.
		images := make([][]int64, y.Letters)
		mustBeMorphism(t, y, none, images, true)
		for _, to := range []impl.Alphabet{none, y} {
			got, code := impl.ImageOf(y, to, images, slices.Concat(lettersOf(y)...))
			mustBe(t, "ImageOf", nil, got, code, nil)
			mask, code := impl.ErasedLetters(y, to, images)
			mustBeNumber(t, "ErasedLetters", y, mask, code, 1<<y.Letters-1)
			lists, code := impl.ComposeMorphisms(y, to, y, images, make([][]int64, to.Letters))
			mustBeLists(t, "ComposeMorphisms", y, lists, code, images)
			for n := range int64(3) {
				lists, code = impl.CollisionTo(y, to, images, n)
				mustBeListsOrFail(t, "CollisionTo", []any{y, n}, lists, code, words("", "a"), codeIf(n > 0 && y.Letters > 0, no))
			}
			lists, code = impl.PreimagesOf(y, to, images, nil)
			mustBeListsOrFail(t, "PreimagesOf", y, lists, code, [][]int64{{}}, codeIf(y.Letters == 0, impl.ErrState))
		}
	}
}

func TestErasedLetters(t *testing.T) {
	wide, narrow := alphabetWith(antichain(8)...), alphabetWith(complete(8)...)
	for mask := range int64(256) {
		images := lettersOf(wide)
		for _, a := range refMembers(mask) {
			images[a] = nil
		}
		for _, x := range []impl.Alphabet{wide, narrow} {
			got, code := impl.ErasedLetters(x, x, images)
			mustBeNumber(t, "ErasedLetters", mask, got, code, mask)
		}
		got, code := impl.ErasedLetters(wide, narrow, images) // only one letter, or none, may be left
		mustCount(t, "ErasedLetters", mask, got, code, mask, codeIf(len(refMembers(255-mask)) <= 1, impl.ErrState))
	}
}

func TestImagesOfLongWords(t *testing.T) {
	t.Parallel()
	codes := map[int64]int{}
	for seed := range numbers(2) {
		someMorphisms(211+seed, 5, func(x *numbers, from, to impl.Alphabet, images [][]int64) {
			if from.Letters == 0 {
				return
			}
			u := someWord(x, int(from.Letters), x.below(25))
			image := joined(images, u)
			for range 3 {
				u = exchanged(x, from, u, x.below(40))
				got, code := impl.ImageOf(from, to, images, u)
				mustBeOrFail(t, "ImageOf", []any{from, to, images, u}, got, code, refExtreme(to, image, 1), codeIf(len(image) <= 24, impl.ErrLimit))
				codes[code]++
			}
		})
	}
	if codes[impl.ErrNone] < 500 || codes[impl.ErrLimit] < 500 {
		t.Errorf("the images have the codes %v", codes)
	}
}

func TestImagesOfAboutMaxWordLetters(t *testing.T) {
	free, wide, narrow := alphabetWith(3, 3), alphabetWith(antichain(8)...), alphabetWith(complete(8)...)
	all, limit := "hgfedcbahgfedcbahgfedcba", int64(impl.ErrLimit)
	cases := []struct {
		y       impl.Alphabet
		a, b, w string
		want    string
		code    int64
	}{
		{narrow, all, "", "a", all, 0}, {narrow, all, "", "bbabb", all, 0}, {narrow, all, "", "aa", "", limit}, {narrow, all, "h", "a", all, 0}, {narrow, all, "h", "ab", "", limit}, {narrow, all, "h", "ba", "", limit}, {narrow, all, all, "", "", 0},
		{wide, all, "", "ba", "aaabbbcccdddeeefffggghhh", 0}, {wide, all[:8], "h", "aab", "aabbccddeeffgghhh", 0}, {wide, all[:8], "h", "aabbbbbbbb", "aabbccddeeffgg" + times(10, "h"), 0}, {wide, all[:8], "h", "aabbbbbbbbb", "", limit},
		{narrow, "hg", "a", times(12, "a"), times(12, "hg"), 0}, {narrow, "hg", "a", times(12, "a") + "b", "", limit}, {narrow, "hg", "a", times(11, "a") + "bb", times(11, "hg") + "aa", 0}, {narrow, "hg", "a", times(24, "a"), "", limit},
		{narrow, "hg", "a", times(24, "b"), times(24, "a"), 0}, {narrow, "hgf", "", times(8, "ba"), all[:0] + times(8, "hgf"), 0}, {narrow, "hgf", "", times(9, "a"), "", limit}, {narrow, "", "", times(12, "ab"), "", 0},
	}
	for _, c := range cases {
		got, code := impl.ImageOf(free, c.y, words(c.a, c.b), word(c.w))
		mustBeOrFail(t, "ImageOf", c, got, code, word(c.want), c.code)
		// The same image is asked for where the word is the image of a letter.
		lists, code := impl.ComposeMorphisms(free, free, c.y, words("b", c.w), words(c.a, c.b))
		mustBeListsOrFail(t, "ComposeMorphisms", c, lists, code, [][]int64{refExtreme(c.y, word(c.b), 1), word(c.want)}, c.code)
		lists, code = impl.ComposeMorphisms(alphabetWith(1), free, c.y, words(c.w), words(c.a, c.b))
		mustBeListsOrFail(t, "ComposeMorphisms", c, lists, code, words(c.want), c.code)
	}
}

func TestComposedMapsOfThreeAlphabets(t *testing.T) {
	t.Parallel()
	codes := map[int64]int{}
	list := testAlphabets()
	for seed := range numbers(2) {
		someMorphisms(221+seed, 6, func(x *numbers, from, to impl.Alphabet, f [][]int64) {
			z := list[x.below(len(list))]
			g := someMorphism(x, to, z, 1+x.below(12))
			if len(g) > 0 && z.Letters > 0 && x.below(2) == 0 {
				g[x.below(len(g))] = someWord(x, int(z.Letters), x.below(3))
			}
			if len(f) > 0 && to.Letters > 0 && x.below(4) == 0 {
				f[x.below(len(f))] = someWord(x, int(to.Letters), x.below(3))
			}
			code := int64(impl.ErrNone)
			var want [][]int64
			for _, w := range f {
				if len(joined(g, w)) > 24 {
					code = impl.ErrLimit
					continue
				}
				want = append(want, refExtreme(z, joined(g, w), 1))
			}
			if !refIsMorphism(from, to, f) || !refIsMorphism(to, z, g) {
				code = impl.ErrState
			}
			got, gotCode := impl.ComposeMorphisms(from, to, z, f, g)
			mustBeListsOrFail(t, "ComposeMorphisms", []any{from, to, z, f, g}, got, gotCode, want, code)
			codes[code]++
		})
	}
	if codes[impl.ErrNone] < 300 || codes[impl.ErrState] < 300 || codes[impl.ErrLimit] < 30 {
		t.Errorf("the composed morphisms have the codes %v", codes)
	}
}

func TestMapsThatAreNoMorphisms(t *testing.T) {
	// ErrState comes before ErrLimit and before ErrNotFound, whichever of two letter maps is none.
	both, free, wide := alphabetWith(1, 2), alphabetWith(3, 3), alphabetWith(antichain(8)...)
	long := times(24, "a")
	for _, images := range [][][]int64{words("a", "b"), words("ab", "ba"), words(long, "b"), words("a", times(12, "ab")), words(long[:23]+"b", long)} {
		for _, w := range words("", "a", "ab", long, times(12, "ab")) {
			for _, n := range []int64{0, 1, 24} {
				for _, f := range mapCalls(w, w, n) {
					got, code := f.call(both, free, images)
					mustFailLists(t, f.name, []any{images, w, n}, got, code, impl.ErrState)
				}
			}
		}
		for _, other := range [][][]int64{words("a", "b"), words("", ""), words("ab", "ab"), words(long, long)} {
			got, code := impl.ComposeMorphisms(both, free, free, images, other)
			mustFailLists(t, "ComposeMorphisms", []any{images, other}, got, code, impl.ErrState)
			got, code = impl.ComposeMorphisms(both, both, free, words("a", "b"), images)
			mustFailLists(t, "ComposeMorphisms", []any{other, images}, got, code, impl.ErrState)
			got, code = impl.ComposeMorphisms(free, both, free, words(long, ""), images)
			mustFailLists(t, "ComposeMorphisms", []any{other, images}, got, code, impl.ErrState)
		}
	}
	// Only the last two, or the first and the last one, of 8 letters have images that do not commute.
	for _, images := range [][][]int64{words("", "", "", "", "", "", "a", "b"), words("b", "", "", "", "", "", "", "a")} {
		for _, f := range mapCalls(nil, nil, 0) {
			got, code := f.call(wide, free, images)
			mustFailLists(t, f.name, images, got, code, impl.ErrState)
		}
	}
}

func TestCollisionsOfLongTraces(t *testing.T) {
	t.Parallel()
	codes, lengths := map[int64]int{}, map[int]int{}
	for seed := range numbers(2) {
		someMorphisms(231+seed, 4, func(x *numbers, from, to impl.Alphabet, images [][]int64) {
			n := x.below([]int{5, 9, 25}[x.below(3)])
			normals, ok := normalsUpTo(from, n, impl.MaxClass)
			code := int64(impl.ErrLimit)
			var want [][]int64
			if ok && n*longestImage(images) <= 24 {
				want = refCollision(to, images, normals)
				code = codeIf(want != nil, no)
			}
			got, gotCode := impl.CollisionTo(from, to, images, int64(n))
			mustBeListsOrFail(t, "CollisionTo", []any{from, to, images, n}, got, gotCode, want, code)
			codes[code]++
			if want != nil {
				lengths[len(want[1])]++
			}
		})
	}
	if codes[impl.ErrNone] < 400 || codes[impl.ErrLimit] < 400 || codes[no] < 100 || lengths[1] < 300 || lengths[2] < 30 {
		t.Errorf("there are the codes %v, and collisions of %v letters", codes, lengths)
	}
}

func TestCollisionsOfPowersOfOneLetter(t *testing.T) {
	one, lengths := alphabetWith(1), map[int]int{}
	for _, x := range []impl.Alphabet{alphabetWith(antichain(2)...), alphabetWith(antichain(3)...), alphabetWith(3, 7, 6)} {
		for _, choice := range allWords(6, int(x.Letters)) {
			var images [][]int64
			for _, k := range choice {
				images = append(images, make([]int64, k+1))
			}
			for n := 1; n <= 24/longestImage(images); n++ {
				normals, ok := normalsUpTo(x, n, 400)
				if !ok {
					break
				}
				want := refCollision(one, images, normals)
				got, code := impl.CollisionTo(x, one, images, int64(n))
				mustBeListsOrFail(t, "CollisionTo", []any{x, images, n}, got, code, want, codeIf(want != nil, no))
				if want != nil {
					lengths[len(want[1])]++
					break
				}
			}
		}
	}
	if lengths[2] < 100 || lengths[3] < 15 || lengths[4] < 3 {
		t.Errorf("there are collisions of %v letters", lengths)
	}
}

func TestCollisions(t *testing.T) {
	free, both, one := alphabetWith(3, 3), alphabetWith(1, 2), alphabetWith(1)
	three, line := alphabetWith(complete(3)...), alphabetWith(3, 7, 6)
	limit := int64(impl.ErrLimit)
	cases := []struct {
		x, y   impl.Alphabet
		images [][]int64
		n      int64
		u, v   string
		code   int64
	}{
		{free, one, words("a", "aa"), 0, "", "", no}, {free, one, words("a", "aa"), 1, "", "", no}, {free, one, words("a", "aa"), 2, "b", "aa", 0}, {free, one, words("a", "aa"), 8, "b", "aa", 0},
		{free, one, words("a", "aa"), 9, "", "", limit}, {free, one, words("a", "a"), 1, "a", "b", 0}, {free, one, words("aa", "aaa"), 2, "ab", "ba", 0}, {free, one, words("aaa", "aa"), 3, "ab", "ba", 0},
		{both, one, words("aa", "aaa"), 2, "", "", no}, {both, one, words("aa", "aaa"), 3, "bb", "aaa", 0}, {both, one, words("aaa", "aa"), 3, "aa", "bbb", 0}, {both, one, words("aaaaa", "aaa"), 4, "", "", no},
		// The image of a letter that is erased is that of the empty trace, which is before all others.
		{free, one, words("", "a"), 1, "", "a", 0}, {free, one, words("a", ""), 1, "", "b", 0}, {free, one, words("", ""), 24, "", "", limit}, {both, one, words("", ""), 24, "", "a", 0}, {one, one, words(""), 24, "", "a", 0}, {one, one, words(""), 0, "", "", no},
		{three, one, words("a", "aa", "aa"), 1, "b", "c", 0}, {three, one, words("aa", "a", "a"), 1, "b", "c", 0}, {three, one, words("aa", "a", "aaa"), 2, "c", "ab", 0}, {three, one, words("aaa", "aa", "a"), 2, "ab", "ba", 0},
		// Letters that commute only as images.
		{free, both, words("a", "b"), 2, "ab", "ba", 0}, {line, alphabetWith(antichain(3)...), words("a", "b", "c"), 2, "ab", "ba", 0}, {free, free, words("a", "ab"), 8, "", "", no}, {free, free, words("ab", "ba"), 8, "", "", no},
		{three, free, words("a", "ab", "ba"), 3, "ac", "ba", 0}, {three, free, words("a", "ab", "bb"), 3, "", "", no}, {three, free, words("a", "abb", "bb"), 2, "b", "ac", 0}, {three, free, words("ab", "aba", "bab"), 3, "bc", "aaa", 0},
		{free, free, words("a", "b"), 8, "", "", no}, {three, free, words("ab", "aba", "bab"), 2, "", "", no},
	}
	for _, c := range cases {
		normals, isListed := normalsUpTo(c.x, int(c.n), impl.MaxClass)
		want := refCollision(c.y, c.images, normals)
		if isListed && (want == nil) != (c.code == no) || want != nil && !areEqualLists(want, words(c.u, c.v)) {
			t.Errorf("the first collision of %v is %v", c, want)
		}
		got, code := impl.CollisionTo(c.x, c.y, c.images, c.n)
		mustBeListsOrFail(t, "CollisionTo", c, got, code, want, c.code)
	}
}

func TestCollisionsOfAboutMaxClassTraces(t *testing.T) {
	// Of all alphabets and lengths the first one comes nearest: none has exactly MaxClass traces with at
	// most so many letters, as a search through all has shown. The others have more.
	cases := []struct {
		x    impl.Alphabet
		n    int64
		size int
	}{
		{alphabetWith(1, 2, 28, 124, 124, 120, 120), 4, 997}, {alphabetWith(1, 2, 12, 12, 112, 240, 240, 224), 4, 996}, {alphabetWith(antichain(3)...), 16, 969}, {alphabetWith(complete(2)...), 8, 511}, {alphabetWith(1, 2), 24, 325},
		{alphabetWith(1), 24, 25}, {alphabetWith(antichain(8)...), 4, 495}, {alphabetWith(complete(8)...), 3, 585}, {alphabetWith(complete(8)...), 0, 1},
		{alphabetWith(antichain(4)...), 10, 1001}, {alphabetWith(7, 7, 7, 120, 120, 120, 120), 4, 1001}, {alphabetWith(complete(2)...), 9, 1023}, {alphabetWith(antichain(3)...), 17, 1140}, {alphabetWith(antichain(3)...), 24, 2925},
		{alphabetWith(complete(8)...), 4, 0}, {alphabetWith(complete(8)...), 24, 0}, {alphabetWith(antichain(8)...), 24, 0}, {alphabetWith(1, 2, 4), 24, 2925},
	}
	for _, c := range cases {
		normals, ok := normalsUpTo(c.x, int(c.n), 3000)
		if c.size > 0 && len(normals) != c.size || c.size == 0 && ok {
			t.Errorf("%v has %d traces with at most %d letters", c.x, len(normals), c.n)
		}
		limit := codeIf(c.size > 0 && c.size <= impl.MaxClass, impl.ErrLimit)
		got, code := impl.CollisionTo(c.x, c.x, lettersOf(c.x), c.n)
		mustFailLists(t, "CollisionTo", c, got, code, cmp.Or(limit, no))
		// A collision of the shortest traces does not come before ErrLimit.
		erased := lettersOf(c.x)
		erased[0] = nil
		got, code = impl.CollisionTo(c.x, c.x, erased, c.n)
		mustBeListsOrFail(t, "CollisionTo", c, got, code, words("", "a"), cmp.Or(limit, codeIf(c.n > 0, no)))
	}
}

func TestCollisionsWithImagesOfAboutMaxWordLetters(t *testing.T) {
	t.Parallel()
	// The traces with at most 24 letters are 25 or 325, and one of them has the longest image 24 times.
	one, both, narrow := alphabetWith(1), alphabetWith(1, 2), alphabetWith(complete(8)...)
	all := "hgfedcbahgfedcbahgfedcba"
	for length := 1; length <= 24; length++ {
		for n := int64(0); n <= 24; n++ {
			limit := codeIf(n*int64(length) <= 24, impl.ErrLimit)
			got, code := impl.CollisionTo(one, narrow, words(all[:length]), n)
			mustFailLists(t, "CollisionTo", []any{length, n}, got, code, cmp.Or(limit, no))
			// With a letter that is erased, a collision of short traces comes first.
			expected := cmp.Or(limit, codeIf(n > 0, no))
			got, code = impl.CollisionTo(both, narrow, words(all[:length], ""), n)
			mustBeListsOrFail(t, "CollisionTo", []any{length, n}, got, code, words("", "b"), expected)
			got, code = impl.CollisionTo(both, narrow, words("", all[:length]), n)
			mustBeListsOrFail(t, "CollisionTo", []any{length, n}, got, code, words("", "a"), expected)
		}
	}
}

func TestPreimagesOfLongWords(t *testing.T) {
	t.Parallel()
	found, many, without := 0, 0, 0
	for seed := range numbers(3) {
		someMorphisms(241+seed, 4, func(x *numbers, from, to impl.Alphabet, images [][]int64) {
			if from.Letters == 0 || slices.ContainsFunc(images, func(w []int64) bool { return len(w) == 0 }) {
				return
			}
			var v []int64
			for u := someWord(x, int(from.Letters), 24); len(u) > 0 && len(v)+len(images[u[0]]) <= 24; u = u[1:] {
				v = append(v, images[u[0]]...)
			}
			if len(v) > 0 && x.below(4) == 0 { // which mostly has no preimages
				v[x.below(len(v))] = int64(x.below(int(to.Letters)))
			}
			v = v[:x.below(len(v)+1)]
			want, ok := refPreimages(from, to, images, v, 500)
			if !ok {
				return
			}
			v = exchanged(x, to, v, 30)
			got, code := impl.PreimagesOf(from, to, images, v)
			mustBeLists(t, "PreimagesOf", []any{from, to, images, v}, got, code, want)
			switch {
			case len(want) > 20:
				many++
			case len(want) > 0:
				found++
			default:
				without++
			}
		})
	}
	if found < 300 || many < 30 || without < 100 {
		t.Errorf("%d traces have preimages, %d more have many, and %d have none", found, many, without)
	}
}

func TestPreimages(t *testing.T) {
	free, both, one, wide := alphabetWith(3, 3), alphabetWith(1, 2), alphabetWith(1), alphabetWith(antichain(8)...)
	cases := []struct {
		x, y   impl.Alphabet
		images [][]int64
		v      string
		want   [][]int64
	}{
		{free, one, words("a", "aa"), "", words("")}, {free, one, words("a", "aa"), "a", words("a")}, {free, one, words("a", "aa"), "aaaa", words("aaaa", "aab", "aba", "baa", "bb")}, {both, one, words("a", "aa"), "aaaa", words("aaaa", "aab", "bb")},
		{free, one, words("aa", "aa"), "aaa", nil}, {free, one, words("aa", "aa"), "aaaa", words("aa", "ab", "ba", "bb")}, {both, one, words("aa", "aa"), "aaaa", words("aa", "ab", "bb")}, {free, free, words("a", "b"), "abba", words("abba")},
		{free, free, words("a", "ab"), "aab", words("ab")}, {free, free, words("a", "ab"), "b", nil}, {free, free, words("ab", "ba"), "abab", words("aa")}, {free, free, words("ab", "ba"), "aabb", nil}, {free, both, words("a", "b"), "ba", words("ab", "ba")},
		{both, both, words("a", "b"), "ba", words("ab")}, {both, both, words("a", "ab"), "bbaaa", words("abb")}, {both, both, words("a", "ab"), "bba", nil}, {square(), square(), words("a", "b", "c", "d"), "cabd", words("acbd")},
		// The letter with the smaller image does not always come first.
		{both, square(), words("c", "a"), "caca", words("aabb")}, {free, square(), words("ac", "ca"), "acac", words("aa", "ab", "ba", "bb")}, {free, square(), words("ca", "b"), "acbb", words("abb")},
		{wide, one, slices.Repeat(words("a"), 8), "a", words("a", "b", "c", "d", "e", "f", "g", "h")}, {wide, wide, lettersOf(wide), "hgfedcbahgfedcbahgfedcba", words("aaabbbcccdddeeefffggghhh")}, {wide, wide, lettersOf(wide), "hgfehgfedcba", words("abcdeeffgghh")}, {one, one, words("aaaaaa"), times(24, "a"), words("aaaa")},
		{one, one, words(times(24, "a")), times(24, "a"), words("a")}, {one, one, words(times(24, "a")), times(23, "a"), nil}, {one, one, words("a"), times(24, "a"), words(times(24, "a"))}, {one, one, words("aaaaa"), times(24, "a"), nil},
		{alphabetWith(3, 7, 6), both, words("a", "a", "b"), "aab", words("aac", "abc", "acb", "bac", "bbc", "bcb", "cba", "cbb")},
	}
	for _, c := range cases {
		if want, ok := refPreimages(c.x, c.y, c.images, word(c.v), 7000); ok && !areEqualLists(want, c.want) {
			t.Errorf("the preimages of %v are %v", c, want)
		}
		got, code := impl.PreimagesOf(c.x, c.y, c.images, word(c.v))
		mustBeLists(t, "PreimagesOf", c, got, code, c.want)
	}
}

func TestAboutMaxClassPreimages(t *testing.T) {
	// All traces with a length have the same image where all letters have.
	one := alphabetWith(1)
	cases := []struct {
		x    impl.Alphabet
		n    int
		size int
	}{
		{alphabetWith(3, 7, 30, 28, 28), 5, 1000}, {alphabetWith(3, 15, 14, 14, 112, 240, 240, 224), 4, 999}, {groups(true, 1, 3, 4), 4, 1001}, {alphabetWith(antichain(5)...), 10, 1001}, {alphabetWith(complete(2)...), 9, 512},
		{alphabetWith(complete(2)...), 10, 1024}, {alphabetWith(antichain(3)...), 24, 325}, {alphabetWith(antichain(8)...), 5, 792}, {alphabetWith(antichain(8)...), 6, 1716}, {alphabetWith(complete(8)...), 4, 0}, {alphabetWith(complete(8)...), 24, 0},
		{alphabetWith(antichain(8)...), 24, 0}, {groups(true, 2, 2, 2, 2), 24, 0},
	}
	for _, c := range cases {
		for _, length := range []int{1, 24 / c.n} {
			images := slices.Repeat([][]int64{make([]int64, length)}, int(c.x.Letters))
			got, code := impl.PreimagesOf(c.x, one, images, make([]int64, c.n*length))
			if c.size == 0 || c.size > impl.MaxClass {
				mustFailLists(t, "PreimagesOf", c, got, code, impl.ErrLimit)
				continue
			}
			normals := [][]int64{{}}
			for range c.n {
				normals = longerNormals(c.x, normals)
			}
			mustBeLists(t, "PreimagesOf", c, got, code, normals)
			if len(got) != c.size {
				t.Errorf("%v has %d traces with %d letters", c.x, len(got), c.n)
			}
		}
	}
}

func TestPreimagesWithErasedLetters(t *testing.T) {
	// An empty image is refused whatever the preimages are, and whether or not the map is a morphism.
	free, both, one := alphabetWith(3, 3), alphabetWith(1, 2), alphabetWith(1)
	for _, v := range words("", "a", "b", "aab", times(24, "a")) {
		for _, x := range []impl.Alphabet{free, both} {
			for _, images := range [][][]int64{words("", "a"), words("ab", ""), words("", ""), {nil, {0}}} {
				mustBeMorphism(t, x, free, images, true)
				got, code := impl.PreimagesOf(x, free, images, v)
				mustFailLists(t, "PreimagesOf", []any{x, images, v}, got, code, impl.ErrState)
			}
		}
		got, code := impl.PreimagesOf(alphabetWith(antichain(3)...), free, words("a", "b", ""), v)
		mustFailLists(t, "PreimagesOf", v, got, code, impl.ErrState)
	}
	for _, v := range notWords(1) { // but it comes behind ErrRange
		got, code := impl.PreimagesOf(one, one, words(""), v)
		mustFailLists(t, "PreimagesOf", v[:min(len(v), 30)], got, code, impl.ErrRange)
	}
}

// checkSymmetries holds the functions of symmetries and a word against the definitions, on some words
// of a trace.
func checkSymmetries(t *testing.T, x impl.Alphabet, symmetries [][]int64, class [][]int64) {
	t.Helper()
	limit := codeIf(len(symmetries) <= impl.MaxClass, impl.ErrLimit)
	orbit := refOrbit(x, symmetries, class[0])
	for _, w := range class {
		got, code := impl.OrbitOf(x, w)
		mustBeListsOrFail(t, "OrbitOf", []any{x, w}, got, code, orbit, limit)
		for _, s := range symmetries[:min(len(symmetries), 50)] {
			got, code := impl.ApplySymmetry(x, s, w)
			mustBe(t, "ApplySymmetry of "+key(x)+key(s), w, got, code, refExtreme(x, replaced(s, w), 1))
		}
	}
}

func TestSymmetriesOfSmallAlphabets(t *testing.T) {
	t.Parallel()
	for _, x := range smallAlphabets() {
		want := refSymmetries(x, bijections(int(x.Letters)))
		got, code := impl.SymmetriesOf(x)
		mustBeLists(t, "SymmetriesOf", x, got, code, want)
		for _, w := range wordsUpTo(int(x.Letters), longestFor(x.Letters)-1) {
			if class := refClass(x, w, 1000); slices.Equal(class[0], w) {
				checkSymmetries(t, x, want, class)
			}
		}
		// Lists that have a letter twice, or do not keep dependence, are no symmetries.
		for _, list := range allWords(int(x.Letters), int(x.Letters)) {
			isSymmetry := slices.ContainsFunc(want, func(s []int64) bool { return slices.Equal(s, list) })
			w := slices.Concat(lettersOf(x)...)
			got, code := impl.ApplySymmetry(x, list, w)
			mustBeOrFail(t, "ApplySymmetry", []any{x, list}, got, code, refExtreme(x, replaced(list, w), 1), codeIf(isSymmetry, impl.ErrState))
		}
	}
}

func TestSymmetriesOfLargeAlphabets(t *testing.T) {
	t.Parallel()
	sizes := map[int]int{}
	x := numbers(251)
	all := [][][]int{5: bijections(5), 6: bijections(6), 7: bijections(7), 8: bijections(8)}
	for i, y := range testAlphabets() {
		n := int(y.Letters)
		if n < 5 || n > 6 && i%3 > 0 {
			continue
		}
		want := refSymmetries(y, all[n])
		got, code := impl.SymmetriesOf(y)
		mustBeListsOrFail(t, "SymmetriesOf", y, got, code, want, codeIf(len(want) <= impl.MaxClass, impl.ErrLimit))
		w := someWord(&x, n, x.below(25))
		checkSymmetries(t, y, want, [][]int64{w, exchanged(&x, y, w, 50)})
		for _, s := range want[:min(len(want), 5)] { // exchanging two of its letters may make it another symmetry, or none
			s = slices.Clone(s)
			a, b := x.below(n), x.below(n)
			s[a], s[b] = s[b], s[a]
			isSymmetry := slices.ContainsFunc(want, func(r []int64) bool { return slices.Equal(r, s) })
			got, code := impl.ApplySymmetry(y, s, w)
			mustBeOrFail(t, "ApplySymmetry", []any{y, s}, got, code, refExtreme(y, replaced(s, w), 1), codeIf(isSymmetry, impl.ErrState))
		}
		sizes[len(want)]++
	}
	if sizes[1] < 10 || sizes[2] < 10 || sizes[40320] == 0 || sizes[1152] == 0 || len(sizes) < 12 {
		t.Errorf("the alphabets have so many symmetries: %v", sizes)
	}
}

func TestNumbersOfSymmetries(t *testing.T) {
	// No alphabet has more than 720 symmetries but fewer than 1152, as a search through all has shown.
	cases := []struct {
		x    impl.Alphabet
		size int
	}{
		{impl.Alphabet{}, 1}, {impl.Alphabet{Depends: []int64{}}, 1}, {alphabetWith(1), 1}, {alphabetWith(3, 3), 2}, {alphabetWith(1, 2), 2}, {square(), 8}, {alphabetWhere(6, func(i, k int) bool { return k-i == 1 || i == 2 && k == 4 }), 1},
		{alphabetWith(antichain(6)...), 720}, {alphabetWith(complete(6)...), 720}, {groups(true, 1, 6), 720}, {groups(false, 1, 6), 720}, {groups(true, 3, 5), 720}, {groups(true, 4, 4), 1152}, {groups(false, 4, 4), 1152},
		{alphabetWhere(8, func(i, k int) bool { return k < 5 || i < 5 }), 720}, {alphabetWhere(8, func(i, k int) bool { return k < 6 }), 1440}, {alphabetWhere(8, func(i, k int) bool { return i >= 4 }), 576},
		{alphabetWith(antichain(7)...), 5040}, {alphabetWith(complete(7)...), 5040}, {groups(true, 1, 7), 5040}, {alphabetWith(antichain(8)...), 40320}, {alphabetWith(complete(8)...), 40320}, {groups(true, 2, 2, 2, 2), 384}, {evenAlphabets()[12], 48},
		{evenAlphabets()[10], 16}, {evenAlphabets()[11], 2},
	}
	for _, c := range cases {
		limit := codeIf(c.size <= impl.MaxClass, impl.ErrLimit)
		got, code := impl.SymmetriesOf(c.x)
		if code != limit || code == impl.ErrNone && len(got) != c.size || code != impl.ErrNone && len(got) != 0 {
			t.Errorf("SymmetriesOf(%v) has %d lists and the code %d", c.x, len(got), code)
		}
		if !slices.IsSortedFunc(got, slices.Compare) || len(slices.CompactFunc(got, slices.Equal)) != len(got) {
			t.Errorf("SymmetriesOf(%v) is not in ascending order", c.x)
		}
		// ErrLimit comes also where the orbit is small.
		orbit, code := impl.OrbitOf(c.x, nil)
		mustBeListsOrFail(t, "OrbitOf", c.x, orbit, code, [][]int64{{}}, limit)
		all := slices.Concat(lettersOf(c.x)...)
		turned, code := impl.ApplySymmetry(c.x, all, reversed(all)) // the identity, whatever the others are
		mustBe(t, "ApplySymmetry", all, turned, code, refExtreme(c.x, reversed(all), 1))
	}
	got, code := impl.SymmetriesOf(alphabetWith(antichain(6)...))
	mustBeLists(t, "SymmetriesOf", "6 independent letters", got, code, distinct(bijectionWords(6)))
	orbit, code := impl.OrbitOf(alphabetWith(antichain(6)...), word("fedcbaf"))
	mustBeLists(t, "OrbitOf", "fedcbaf", orbit, code, words("aabcdef", "abbcdef", "abccdef", "abcddef", "abcdeef", "abcdeff"))
	orbit, code = impl.OrbitOf(alphabetWith(complete(6)...), word("abcdef"))
	mustBeLists(t, "OrbitOf", "abcdef", orbit, code, distinct(bijectionWords(6)))
}

// bijectionWords returns all orders of n letters as words.
func bijectionWords(n int) [][]int64 {
	var list [][]int64
	for _, names := range bijections(n) {
		w := []int64{}
		for _, a := range names {
			w = append(w, int64(a))
		}
		list = append(list, w)
	}
	return list
}

func TestOrbits(t *testing.T) {
	x := square()
	for text, want := range map[string][][]int64{
		"": words(""), "a": words("a", "b", "c", "d"), "ca": words("ac", "bd"), "aa": words("aa", "bb", "cc", "dd"), "ab": words("ab", "ad", "ba", "bc", "cb", "cd", "da", "dc"), "acbd": words("acbd", "bdac"),
		"caa": words("aac", "acc", "bbd", "bdd"), "cab": words("acb", "acd", "bda", "bdc"), "bca": words("abd", "bac", "cbd", "dac"),
	} {
		got, code := impl.OrbitOf(x, word(text))
		mustBeLists(t, "OrbitOf", text, got, code, want)
	}
	long := word(times(12, "a") + times(12, "b"))
	got, code := impl.OrbitOf(alphabetWith(antichain(6)...), long)
	if code != impl.ErrNone || len(got) != 15 {
		t.Errorf("OrbitOf(%v) has %d traces, and the code %d", long, len(got), code)
	}
}

func TestListsThatAreNoSymmetries(t *testing.T) {
	wide, narrow := alphabetWith(antichain(8)...), alphabetWith(complete(8)...)
	for _, x := range []impl.Alphabet{{}, alphabetWith(1), alphabetWith(1, 2), square(), wide, narrow} {
		identity := slices.Concat(lettersOf(x)...)
		lists := append(notWords(x.Letters), append(slices.Clone(identity), 0), append(slices.Clone(identity), x.Letters), append([]int64{0}, identity...))
		if len(identity) > 0 {
			last := len(identity) - 1
			lists = append(lists, nil, identity[1:], identity[:last], append(slices.Clone(identity[:last]), x.Letters), append(slices.Clone(identity[:last]), -1), append([]int64{math.MaxInt64}, identity[1:]...), append([]int64{math.MinInt64}, identity[1:]...))
		}
		for _, list := range lists {
			for _, w := range [][]int64{nil, identity} {
				got, code := impl.ApplySymmetry(x, list, w)
				mustFail(t, "ApplySymmetry", list[:min(len(list), 30)], got, code, impl.ErrRange)
			}
		}
		// A word that is none comes before a list that has a letter twice.
		for _, w := range notWords(x.Letters) {
			for _, list := range [][]int64{identity, make([]int64, x.Letters)} {
				got, code := impl.ApplySymmetry(x, list, w)
				mustFail(t, "ApplySymmetry", w[:min(len(w), 30)], got, code, impl.ErrRange)
			}
		}
		if len(identity) > 1 {
			got, code := impl.ApplySymmetry(x, make([]int64, x.Letters), nil)
			mustFail(t, "ApplySymmetry", nil, got, code, impl.ErrState)
		}
	}
	for _, list := range [][]int64{{0, 2, 1, 3}, {1, 0, 2, 3}, {0, 1, 3, 2}, {0, 0, 2, 3}, {0, 1, 2, 2}, {0, 1, 2, 0}, {3, 1, 2, 3}} {
		for _, w := range words("", "ac", "abcd", times(24, "a")) {
			got, code := impl.ApplySymmetry(square(), list, w)
			mustFail(t, "ApplySymmetry", list, got, code, impl.ErrState)
		}
	}
}

func TestInvalidAlphabetsOfMorphisms(t *testing.T) {
	// ErrInvalid comes before ErrRange, before ErrState, before ErrLimit and before the other errors,
	// whichever of the alphabets is none.
	both, free := alphabetWith(1, 2), alphabetWith(3, 3)
	lists := [][][]int64{nil, {{}}, {{0}}, {{0}, {1}}, {{0}, {0}}, {{9}}, {{-1}, {}}, {make([]int64, 25), nil}, {{0}, {1}, {2}}, make([][]int64, 8), make([][]int64, 9), {make([]int64, 24), make([]int64, 24)}}
	for _, x := range notAlphabets() {
		shown := x.Depends[:min(len(x.Depends), 9)]
		for _, images := range lists {
			for _, pair := range [][2]impl.Alphabet{{x, both}, {both, x}, {x, x}, {x, free}, {free, x}, {x, {}}, {{}, x}} {
				mustBeMorphism(t, pair[0], pair[1], images, false)
				for _, f := range slices.Concat(mapCalls(nil, nil, 0), mapCalls([]int64{0}, []int64{0}, 24), mapCalls([]int64{-1}, make([]int64, 25), 25)) {
					got, code := f.call(pair[0], pair[1], images)
					mustFailLists(t, f.name, shown, got, code, impl.ErrInvalid)
				}
			}
			for _, other := range lists {
				for _, three := range [][3]impl.Alphabet{{x, both, free}, {both, x, free}, {both, free, x}} {
					got, code := impl.ComposeMorphisms(three[0], three[1], three[2], images, other)
					mustFailLists(t, "ComposeMorphisms", shown, got, code, impl.ErrInvalid)
				}
			}
		}
		for _, w := range [][]int64{nil, {0}, {1}, {0, 1}, {-1}, make([]int64, 25)} {
			for _, f := range slices.Concat(symmetryCalls(nil), symmetryCalls([]int64{0}), symmetryCalls([]int64{0, 0}), symmetryCalls([]int64{-1})) {
				got, code := f.call(x, w)
				mustFailLists(t, f.name, shown, got, code, impl.ErrInvalid)
			}
		}
	}
}

// notLetterMaps returns lists that are no letter maps to y: those of some letter map with elements
// less or more, or with other elements.
func notLetterMaps(y impl.Alphabet, images [][]int64) [][][]int64 {
	list := [][][]int64{append(slices.Clone(images), nil), append(slices.Clone(images), []int64{0}), make([][]int64, len(images)+9), append([][]int64{nil}, images...)}
	for i := range images {
		list = append(list, images[:i], images[i+1:])
		for _, w := range notWords(y.Letters) {
			changed := slices.Clone(images)
			changed[i] = w
			list = append(list, changed)
		}
	}
	return list
}

func TestArgumentsThatAreRefusedForMorphisms(t *testing.T) {
	// ErrRange comes before ErrState, before ErrLimit and before ErrNotFound.
	both, free, wide, one := alphabetWith(1, 2), alphabetWith(3, 3), alphabetWith(antichain(8)...), alphabetWith(1)
	cases := []struct {
		x, y   impl.Alphabet
		images [][]int64
	}{
		{both, free, words("a", "b")}, {both, free, words("ab", "ab")}, {both, free, words("", "")}, {free, both, words(times(24, "a"), "b")}, {wide, wide, lettersOf(wide)}, {wide, free, slices.Repeat(words("a", "b"), 4)}, {one, one, words("a")},
		{impl.Alphabet{}, one, nil}, {impl.Alphabet{}, impl.Alphabet{}, nil}, {one, impl.Alphabet{}, words("")},
	}
	for _, c := range cases {
		for _, images := range notLetterMaps(c.y, c.images) {
			mustBeMorphism(t, c.x, c.y, images, false)
			for _, f := range slices.Concat(mapCalls(nil, nil, 0), mapCalls(make([]int64, min(c.x.Letters, 1)*24), nil, 24)) {
				got, code := f.call(c.x, c.y, images)
				mustFailLists(t, f.name, []any{c.x, c.y}, got, code, impl.ErrRange)
			}
			// Whichever of two letter maps is none, and whether or not the other one is a morphism.
			got, code := impl.ComposeMorphisms(c.x, c.y, c.y, images, slices.Repeat([][]int64{nil}, int(c.y.Letters)))
			mustFailLists(t, "ComposeMorphisms", []any{c.x, c.y}, got, code, impl.ErrRange)
			got, code = impl.ComposeMorphisms(both, c.x, c.y, make([][]int64, 2), images)
			mustFailLists(t, "ComposeMorphisms", []any{c.x, c.y}, got, code, impl.ErrRange)
			if c.x.Letters == 2 {
				got, code = impl.ComposeMorphisms(both, c.x, c.y, words("a", "b"), images)
				mustFailLists(t, "ComposeMorphisms", []any{c.x, c.y}, got, code, impl.ErrRange)
			}
		}
		for _, w := range notWords(c.x.Letters) {
			got, code := impl.ImageOf(c.x, c.y, c.images, w)
			mustFail(t, "ImageOf", w[:min(len(w), 30)], got, code, impl.ErrRange)
			lists, code := impl.OrbitOf(c.x, w)
			mustFailLists(t, "OrbitOf", w[:min(len(w), 30)], lists, code, impl.ErrRange)
		}
		for _, v := range notWords(c.y.Letters) {
			got, code := impl.PreimagesOf(c.x, c.y, c.images, v)
			mustFailLists(t, "PreimagesOf", v[:min(len(v), 30)], got, code, impl.ErrRange)
		}
		for _, n := range []int64{-1, -24, 25, 26, 1 << 32, 1<<32 + 3, math.MaxInt64, math.MinInt64} {
			got, code := impl.CollisionTo(c.x, c.y, c.images, n)
			mustFailLists(t, "CollisionTo", n, got, code, impl.ErrRange)
		}
	}
	// The words of the one alphabet need not be words of the other one.
	image, code := impl.ImageOf(wide, one, slices.Repeat(words("a"), 8), word("hgf"))
	mustBe(t, "ImageOf", word("hgf"), image, code, word("aaa"))
	lists, code := impl.PreimagesOf(one, wide, words("h"), word("hh"))
	mustBeLists(t, "PreimagesOf", "hh", lists, code, words("aa"))
	lists, code = impl.PreimagesOf(wide, one, slices.Repeat(words("a"), 8), word("b"))
	mustFailLists(t, "PreimagesOf", "b", lists, code, impl.ErrRange)
	image, code = impl.ImageOf(one, wide, words("h"), word("h"))
	mustFail(t, "ImageOf", word("h"), image, code, impl.ErrRange)
}

func TestComposedMapsWhereBothAreWrong(t *testing.T) {
	// Each kind of error is looked for in both letter maps before the next one.
	both, free := alphabetWith(1, 2), alphabetWith(3, 3)
	morphism, long, none, faulty := words("ab", "ab"), words(times(24, "a"), times(24, "a")), words("a", "b"), words("a", "c")
	cases := []struct {
		f, g [][]int64
		code int64
	}{
		{faulty, morphism, impl.ErrRange}, {faulty, none, impl.ErrRange}, {faulty, faulty, impl.ErrRange}, {faulty, long, impl.ErrRange}, {morphism, faulty, impl.ErrRange}, {none, faulty, impl.ErrRange}, {long, faulty, impl.ErrRange},
		{none, morphism, impl.ErrState}, {none, long, impl.ErrState}, {morphism, none, impl.ErrNone}, {long, none, impl.ErrNone}, {long, morphism, impl.ErrLimit}, {morphism, long, impl.ErrLimit}, {long, long, impl.ErrLimit},
	}
	for _, c := range cases {
		got, code := impl.ComposeMorphisms(both, free, free, c.f, c.g)
		mustBeListsOrFail(t, "ComposeMorphisms", []any{c.f, c.g}, got, code, c.f, c.code)
		if c.code == impl.ErrNone { // where the second one leads each letter to itself, but not as images that commute
			got, code = impl.ComposeMorphisms(free, both, free, c.f, c.g)
			mustFailLists(t, "ComposeMorphisms", []any{c.f, c.g}, got, code, impl.ErrState)
		}
	}
}

func TestMorphismsAreTheSameForAllWords(t *testing.T) {
	t.Parallel()
	compared := 0
	someMorphisms(261, 4, func(x *numbers, from, to impl.Alphabet, images [][]int64) {
		if from.Letters == 0 || to.Letters == 0 {
			return
		}
		u, v := someWord(x, int(from.Letters), x.below(12)), someWord(x, int(to.Letters), x.below(12))
		others := slices.Clone(images) // of which each one may be another word of the same trace
		for a, w := range others {
			others[a] = exchanged(x, to, w, 9)
		}
		first := mapCalls(u, v, 2)
		second := mapCalls(exchanged(x, from, u, 30), exchanged(x, to, v, 30), 2)
		for i, f := range first {
			want, wantCode := f.call(from, to, images)
			got, code := second[i].call(from, to, others)
			if code != wantCode || !areEqualLists(got, want) {
				t.Errorf("%s(%v, %v, %v) = %v, %d, and not %v, %d", f.name, from, to, others, got, code, want, wantCode)
			}
			compared++
		}
	})
	if compared < 1000 {
		t.Errorf("only %d results were compared", compared)
	}
}

// mustLead returns the image of a word, which must not have too many letters, or false.
func mustLead(t *testing.T, x, y impl.Alphabet, images [][]int64, w []int64) ([]int64, bool) {
	t.Helper()
	image, code := impl.ImageOf(x, y, images, w)
	if code != impl.ErrNone && code != impl.ErrLimit {
		t.Fatalf("ImageOf(%v, %v, %v, %v): code %d", x, y, images, w, code)
	}
	return image, code == impl.ErrNone
}

func TestPromise8OnProducts(t *testing.T) {
	t.Parallel()
	found := 0
	someMorphisms(262, 4, func(x *numbers, from, to impl.Alphabet, images [][]int64) {
		if from.Letters == 0 {
			return
		}
		u, v := someWord(x, int(from.Letters), x.below(10)), someWord(x, int(from.Letters), x.below(10))
		product := mustHave(t, impl.Concatenate, from, u, v)
		image, ok := mustLead(t, from, to, images, product)
		if !ok {
			return
		}
		first, _ := mustLead(t, from, to, images, u)
		second, _ := mustLead(t, from, to, images, v)
		mustAgree(t, []any{from, to, images, u, v}, mustHave(t, impl.Concatenate, to, first, second), image)
		found += min(len(image)/2, 1)
		// The empty trace leads to itself, and the image of a letter is that of the letter map.
		empty, _ := mustLead(t, from, to, images, nil)
		mustAgree(t, []any{from, to, images}, empty, nil)
		for a, w := range images {
			letter, _ := mustLead(t, from, to, images, []int64{int64(a)})
			mustAgree(t, []any{from, to, images, a}, letter, mustGive(t, to, w))
		}
	})
	if found < 300 {
		t.Errorf("only %d images of products have several letters", found)
	}
}

func TestPromise8OnComposedMorphisms(t *testing.T) {
	t.Parallel()
	found := 0
	list := testAlphabets()
	someMorphisms(263, 4, func(x *numbers, from, to impl.Alphabet, f [][]int64) {
		z := list[x.below(len(list))]
		g := someMorphism(x, to, z, 1+x.below(4))
		if x.below(2) == 0 {
			z, g = someWeakening(x, to, 3)
		}
		both, code := impl.ComposeMorphisms(from, to, z, f, g)
		if code == impl.ErrLimit || from.Letters == 0 {
			return
		}
		mustList(t, "ComposeMorphisms", nil, code)
		mustBeMorphism(t, from, z, both, true)
		w := someWord(x, int(from.Letters), x.below(8))
		image, ok := mustLead(t, from, to, f, w)
		once, onceOK := mustLead(t, from, z, both, w)
		if !ok || !onceOK {
			return
		}
		twice, _ := mustLead(t, to, z, g, image)
		mustAgree(t, []any{from, to, z, f, g, w}, twice, once)
		found += min(len(once)/2, 1)
		// What the first one erases, or what leads to letters that the second one erases, is erased.
		erasedFirst, _ := impl.ErasedLetters(from, to, f)
		erasedBoth, code := impl.ErasedLetters(from, z, both)
		if code != impl.ErrNone || erasedFirst&^erasedBoth != 0 {
			t.Errorf("ErasedLetters(%v, %v, %v) = %d, %d, and at first %d", from, z, both, erasedBoth, code, erasedFirst)
		}
		// Composing with what leads letters to themselves gives the images.
		same, code := impl.ComposeMorphisms(from, from, z, lettersOf(from), both)
		mustBeLists(t, "ComposeMorphisms", both, same, code, both)
		same, code = impl.ComposeMorphisms(from, z, z, both, lettersOf(z))
		mustBeLists(t, "ComposeMorphisms", both, same, code, both)
	})
	if found < 100 {
		t.Errorf("only %d images have several letters", found)
	}
}

func TestPromise8OnCollisionsAndPreimages(t *testing.T) {
	t.Parallel()
	collisions, preimages := 0, 0
	someMorphisms(264, 4, func(x *numbers, from, to impl.Alphabet, images [][]int64) {
		if from.Letters == 0 {
			return
		}
		n := x.below(5)
		pair, code := impl.CollisionTo(from, to, images, int64(n))
		if code == impl.ErrNone {
			u, v := pair[0], pair[1]
			first, _ := mustLead(t, from, to, images, u)
			second, _ := mustLead(t, from, to, images, v)
			mustAgree(t, []any{from, to, images, pair}, first, second)
			isBefore := len(u) < len(v) || len(u) == len(v) && slices.Compare(u, v) < 0
			if len(pair) != 2 || !isBefore || len(v) > n || !slices.Equal(mustGive(t, from, u), u) || !slices.Equal(mustGive(t, from, v), v) {
				t.Errorf("CollisionTo(%v, %v, %v, %d) = %v", from, to, images, n, pair)
			}
			collisions++
		}
		w := someWord(x, int(from.Letters), 1+x.below(5))
		image, ok := mustLead(t, from, to, images, w)
		list, listCode := impl.PreimagesOf(from, to, images, image)
		if !ok || listCode != impl.ErrNone {
			return
		}
		for _, u := range list {
			got, _ := mustLead(t, from, to, images, u)
			mustAgree(t, []any{from, to, images, u}, got, image)
		}
		isTheTrace := func(u []int64) bool { return slices.Equal(u, mustGive(t, from, w)) }
		isAscending := slices.IsSortedFunc(list, slices.Compare) && len(slices.CompactFunc(slices.Clone(list), slices.Equal)) == len(list)
		if !slices.ContainsFunc(list, isTheTrace) || !isAscending {
			t.Errorf("PreimagesOf(%v, %v, %v, %v) = %v", from, to, images, image, list)
		}
		// Where there is no collision, no short trace has another short preimage.
		if code == no && len(list) > 1 && len(list[0]) <= n && len(list[1]) <= n {
			t.Errorf("CollisionTo(%v, %v, %v, %d) finds none, and PreimagesOf %v", from, to, images, n, list)
		}
		preimages++
	})
	if collisions < 200 || preimages < 200 {
		t.Errorf("there are %d collisions, and %d lists of preimages", collisions, preimages)
	}
}

func TestPromise8OnSymmetries(t *testing.T) {
	t.Parallel()
	someTraces(265, func(x *numbers, y impl.Alphabet, u, v []int64) {
		symmetries, code := impl.SymmetriesOf(y)
		orbit, orbitCode := impl.OrbitOf(y, u)
		if code == impl.ErrLimit && orbitCode == impl.ErrLimit {
			return
		}
		mustList(t, "SymmetriesOf", nil, code)
		mustList(t, "OrbitOf", nil, orbitCode)
		p, q := symmetries[x.below(len(symmetries))], symmetries[x.below(len(symmetries))]
		// A symmetry is a morphism that leads each letter to one letter, and two of them make a third one.
		var images [][]int64
		for _, b := range p {
			images = append(images, []int64{b})
		}
		led := mustHave(t, impl.ApplySymmetry, y, p, v)
		image, _ := mustLead(t, y, y, images, u)
		mustAgree(t, []any{y, p, u}, led, image)
		mustAgree(t, []any{y, p, q, u}, mustHave(t, impl.ApplySymmetry, y, q, led), mustHave(t, impl.ApplySymmetry, y, replaced(q, p), u))
		again, code := impl.OrbitOf(y, led)
		mustBeLists(t, "OrbitOf", []any{y, led}, again, code, orbit)
		if len(symmetries)%len(orbit) != 0 {
			t.Errorf("OrbitOf(%v, %v) has %d traces, and there are %d symmetries", y, u, len(orbit), len(symmetries))
		}
	})
}

func TestMorphismsAreFast(t *testing.T) {
	wide, narrow, one := alphabetWith(antichain(8)...), alphabetWith(complete(8)...), alphabetWith(1)
	// In this one, most sets of letters can come next in normal forms.
	many := alphabetWith(45, 10, 149, 139, 20, 33, 64, 140)
	long := word("hgfedcbahgfedcbahgfedcba")
	odd := lettersOf(wide) // of the letter h, of which there are three, this takes two at once
	odd[7] = word("hh")
	maps := [][][]int64{lettersOf(wide), odd, slices.Repeat(words("a"), 8), slices.Repeat(words("a", "aa"), 4), slices.Repeat([][]int64{long}, 8), slices.Repeat([][]int64{make([]int64, 24)}, 8), slices.Repeat(words("hgf"), 8), slices.Repeat(words("hg", "hhgg"), 4), make([][]int64, 8)}
	for _, x := range append(evenAlphabets(), many) {
		for _, y := range []impl.Alphabet{wide, narrow, x} {
			for _, images := range maps {
				within(t, "IsMorphism", func() { impl.IsMorphism(x, y, images) })
				for _, f := range slices.Concat(mapCalls(long, long, 24), mapCalls(long[:3], make([]int64, 24), 3), mapCalls(nil, word("hghghghghghghghghghghghg"), 4)) {
					within(t, f.name, func() { f.call(x, y, images) })
				}
			}
		}
		for _, f := range symmetryCalls(slices.Concat(lettersOf(x)...)) {
			within(t, f.name, func() { f.call(x, long) })
		}
	}
	huge := make([]int64, 5000000)
	for _, f := range slices.Concat(mapCalls(huge, huge, math.MaxInt64), mapCalls(nil, nil, 0)) {
		within(t, f.name, func() { f.call(one, one, [][]int64{huge}) })
		within(t, f.name, func() { f.call(one, one, make([][]int64, 1000000)) })
	}
	for _, f := range symmetryCalls(huge) {
		within(t, f.name, func() { f.call(wide, huge) })
	}
}

// spaciousLists returns copies of lists, with capacity behind each of them and behind all of them, and
// a function that reports whether they are as they were.
func spaciousLists(lists [][]int64) ([][]int64, func() bool) {
	var copies [][]int64
	var checks []func() bool
	for _, list := range lists {
		copied, isKept := spacious(list)
		copies, checks = append(copies, copied), append(checks, isKept)
	}
	room := append(slices.Clone(copies), []int64{-71}, []int64{-72})
	return room[:len(lists)], func() bool {
		areKept := areEqualLists(room, append(slices.Clone(lists), []int64{-71}, []int64{-72}))
		return areKept && !slices.ContainsFunc(checks, func(isKept func() bool) bool { return !isKept() })
	}
}

func TestMorphismsShareNoMemory(t *testing.T) {
	cases := []struct {
		x, y   impl.Alphabet
		images [][]int64
	}{
		{square(), square(), words("a", "b", "c", "d")}, {square(), square(), words("ca", "bd", "", "db")}, {square(), square(), words("c", "d", "a", "b")}, {square(), square(), words("a", "b", "a", "d")}, {square(), alphabetWith(3, 3), words("a", "bab", "aa", "")},
		{square(), alphabetWith(1), words("a", "a", "aa", "a")}, {square(), alphabetWith(3, 3), words("a", "b", "b", "b")},
	}
	for _, c := range cases {
		depends, isFromKept := spacious(c.x.Depends)
		others, isToKept := spacious(c.y.Depends)
		x, y := impl.Alphabet{Letters: c.x.Letters, Depends: depends}, impl.Alphabet{Letters: c.y.Letters, Depends: others}
		images, areImagesKept := spaciousLists(c.images)
		for _, texts := range [][2]string{{"", ""}, {"cabd", "a"}, {"dbca", "aaa"}, {"acacac", "aaaa"}} {
			w, isWordKept := spacious(word(texts[0]))
			v, isImageKept := spacious(word(texts[1]))
			areKept := func() bool { return isFromKept() && isToKept() && areImagesKept() && isWordKept() && isImageKept() }
			for _, f := range slices.Concat(mapCalls(w, v, 0), mapCalls(w, v, 1), mapCalls(w, v, 3)) {
				checkFresh(t, f.name+" of "+key(c), areKept, func() ([][]int64, int64) { return f.call(x, y, images) })
			}
			impl.IsMorphism(x, y, images)
			checkFresh(t, "ComposeMorphisms of "+key(c), areKept, func() ([][]int64, int64) { return impl.ComposeMorphisms(x, x, y, images, images) })
			checkFresh(t, "ComposeMorphisms of "+key(c), areKept, func() ([][]int64, int64) { return impl.ComposeMorphisms(x, x, x, images, images) })
		}
	}
	checkMemory(t, []string{"", "a", "ca", "cabd", "badc", "abcd", "dbca"}, symmetryCalls)
}
