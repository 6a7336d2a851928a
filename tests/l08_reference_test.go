package tests

import (
	"slices"
	"testing"

	"loop.example/g01094/impl"
)

// The functions of this file follow the definitions of chapter 8: for short words by looking at all
// words of all traces, and for long ones in other ways than the program does.

// joined returns the words of the letters of a word, one after the other.
func joined(images [][]int64, w []int64) []int64 {
	var all []int64
	for _, a := range w {
		all = append(all, images[a]...)
	}
	return all
}

// lettersOf returns the letter map that leads from each letter of an alphabet, or of what is none, to
// itself.
func lettersOf(x impl.Alphabet) [][]int64 {
	var images [][]int64
	for a := range min(x.Letters, 9) {
		images = append(images, []int64{a})
	}
	return images
}

// refCommute compares the pair projections of both products.
func refCommute(y impl.Alphabet, u, v []int64) bool {
	return areEqualLists(refPairProjections(y, slices.Concat(u, v)), refPairProjections(y, slices.Concat(v, u)))
}

// commutesWithAll reports whether a word commutes with the images of all letters, among the first
// ones, that are independent of a.
func commutesWithAll(x, y impl.Alphabet, images [][]int64, a int, w []int64) bool {
	for b, image := range images[:a] {
		if !related(x.Depends, a, b) && !refCommute(y, image, w) {
			return false
		}
	}
	return true
}

// refIsMorphism follows the definitions for alphabets, words and morphisms.
func refIsMorphism(x, y impl.Alphabet, images [][]int64) bool {
	if !refIsAlphabet(x) || !refIsAlphabet(y) || int64(len(images)) != x.Letters {
		return false
	}
	for a, w := range images {
		if !refIsWord(y, w) || !commutesWithAll(x, y, images, a, w) {
			return false
		}
	}
	return true
}

// shortMap is a letter map with the short traces of its alphabets.
type shortMap struct {
	from, to divisions
	images   [][]int64
}

// imageOf returns the number of the trace to which a word leads.
func (m shortMap) imageOf(w []int64) int { return m.to.number[refWordText(joined(m.images, w))] }

// isMorphism reports whether all words of each trace lead to the same one.
func (m shortMap) isMorphism() bool {
	for _, class := range m.from.classes {
		for _, w := range class {
			if m.imageOf(w) != m.imageOf(class[0]) {
				return false
			}
		}
	}
	return true
}

// collision returns the first collision of traces with at most n letters, or nil.
func (m shortMap) collision(n int) [][]int64 {
	for v := range m.from.classes {
		for u := range v {
			if m.from.length(v) <= n && m.imageOf(m.from.normal(u)) == m.imageOf(m.from.normal(v)) {
				return [][]int64{m.from.normal(u), m.from.normal(v)}
			}
		}
	}
	return nil
}

// preimages returns the normal forms of all traces with a trace as their image, among the short ones.
func (m shortMap) preimages(image int) [][]int64 {
	var list [][]int64
	for v := range m.from.classes {
		if m.imageOf(m.from.normal(v)) == image {
			list = append(list, m.from.normal(v))
		}
	}
	return distinct(list)
}

// shortMaps calls a function with all letter maps from alphabets with at most 3 letters to others, in
// which images have at most 2 letters: to all with up to 3 letters from one with up to 2, and to all
// with up to 2 letters from one with 3. Their traces have up to 3 letters, and their images up to 6.
func shortMaps(t *testing.T, call func(m shortMap)) {
	t.Helper()
	var from, to []divisions
	for _, x := range smallAlphabets() {
		if x.Letters <= 3 {
			from, to = append(from, divisionsOf(t, x, 3)), append(to, divisionsOf(t, x, 6))
		}
	}
	for _, x := range from {
		for _, y := range to {
			if x.x.Letters+y.x.Letters > 5 {
				continue
			}
			list := wordsUpTo(int(y.x.Letters), 2)
			for _, choice := range allWords(len(list), int(x.x.Letters)) {
				call(shortMap{x, y, joinedLists(list, choice)})
			}
		}
	}
}

// joinedLists returns the lists at some places.
func joinedLists(list [][]int64, places []int64) [][]int64 {
	var chosen [][]int64
	for _, i := range places {
		chosen = append(chosen, list[i])
	}
	return chosen
}

// normalsUpTo returns the normal forms with at most n letters, shorter ones before longer ones, and
// whether they are at most limit.
func normalsUpTo(x impl.Alphabet, n, limit int) ([][]int64, bool) {
	var all [][]int64
	level := [][]int64{{}}
	for range n + 1 {
		all = append(all, level...)
		if len(all) > limit {
			return nil, false
		}
		level = longerNormals(x, level)
	}
	return all, true
}

// refCollision looks for the first one of some normal forms to which another one before it is led
// with the same image.
func refCollision(y impl.Alphabet, images, normals [][]int64) [][]int64 {
	first := map[string][]int64{}
	for _, v := range normals {
		text := refWordText(refExtreme(y, joined(images, v), 1))
		if u, isKnown := first[text]; isKnown {
			return [][]int64{u, v}
		}
		first[text] = v
	}
	return nil
}

// longestImage returns the most letters that an image has.
func longestImage(images [][]int64) int {
	most := 0
	for _, w := range images {
		most = max(most, len(w))
	}
	return most
}

// refPreimages builds traces from their ends, as long as their images are suffixes of a trace, and
// returns those that have all of it as their image, in ascending order, and whether no more than limit
// traces were built.
func refPreimages(x, y impl.Alphabet, images [][]int64, v []int64, limit int) ([][]int64, bool) {
	type suffix struct{ letters, left []int64 } // what is left of v is read from its end
	built := []suffix{{nil, reversed(v)}}
	known := map[string]bool{}
	var list [][]int64
	for i := 0; i < len(built); i++ {
		s := built[i]
		if len(s.left) == 0 {
			list = append(list, s.letters)
		}
		for a, image := range images {
			if !areProjectedPrefixes(y, reversed(image), s.left) {
				continue
			}
			longer := refExtreme(x, append([]int64{int64(a)}, s.letters...), 1)
			if text := refWordText(longer); !known[text] {
				known[text] = true
				built = append(built, suffix{longer, lessFirst(image, s.left)})
			}
		}
		if len(built) > limit {
			return nil, false
		}
	}
	return distinct(list), true
}

// refSymmetries returns those of all bijections under which letters depend on each other exactly if
// those do to which they lead, in ascending order.
func refSymmetries(x impl.Alphabet, bijections [][]int) [][]int64 {
	var list [][]int64
	for _, names := range bijections {
		if slices.Equal(renamed(x.Depends, names), x.Depends) {
			symmetry := []int64{}
			for _, b := range names {
				symmetry = append(symmetry, int64(b))
			}
			list = append(list, symmetry)
		}
	}
	return distinct(list)
}

// replaced returns the word in which a list tells what stands in the place of each letter.
func replaced(list, w []int64) []int64 {
	v := []int64{}
	for _, a := range w {
		v = append(v, list[a])
	}
	return v
}

// refOrbit returns the normal forms of the words to which some symmetries lead from a word.
func refOrbit(x impl.Alphabet, symmetries [][]int64, w []int64) [][]int64 {
	var list [][]int64
	for _, s := range symmetries {
		list = append(list, refExtreme(x, replaced(s, w), 1))
	}
	return distinct(list)
}

// someImage returns a word that may commute with some others: any one, a power of the root of one of
// them, a word of letters that are independent of it, or both.
func someImage(x *numbers, y impl.Alphabet, others [][]int64, longest int) []int64 {
	n := int(y.Letters)
	w := someWord(x, n, x.below(longest+1))
	if len(others) == 0 || x.below(3) == 0 {
		return w
	}
	u := others[x.below(len(others))]
	free := among(independentOf(y, u), w)
	if len(u) == 0 || x.below(3) == 0 {
		return free
	}
	root, _ := refRoot(y, u)
	w = slices.Repeat(root, x.below(4))
	if x.below(2) == 0 {
		w = append(w, free...)
	}
	if len(w) > longest {
		return root
	}
	return exchanged(x, y, w, 5)
}

// someMorphism returns a morphism from x to y in which images have at most so many letters. Letters
// for which none of the words that it tries will do have an empty image.
func someMorphism(x *numbers, from, to impl.Alphabet, longest int) [][]int64 {
	images := [][]int64{}
	for a := range int(from.Letters) {
		image := []int64{}
		for range 12 {
			if to.Letters == 0 {
				break
			}
			w := someImage(x, to, images, longest)
			if len(w) <= longest && commutesWithAll(from, to, images, a, w) {
				image = w
				break
			}
		}
		images = append(images, image)
	}
	return images
}

// someWeakening returns an alphabet in which fewer letters depend on each other than in another one,
// and a morphism to it under which no image is empty: it leads letters to powers of themselves, and
// some of them to the images of others, or to both images.
func someWeakening(x *numbers, from impl.Alphabet, longest int) (impl.Alphabet, [][]int64) {
	to := alphabetWhere(int(from.Letters), func(i, k int) bool { return related(from.Depends, i, k) && x.below(3) > 0 })
	var images [][]int64
	for a := range from.Letters {
		images = append(images, slices.Repeat([]int64{a}, 1+x.below(min(longest, 3))))
	}
	for range images {
		a, b := x.below(len(images)), x.below(len(images))
		changed := slices.Clone(images)
		changed[a] = slices.Clone(images[b])
		if x.below(2) == 0 {
			changed[a] = slices.Concat(images[a], images[b])
		}
		if len(changed[a]) <= longest && refIsMorphism(from, to, changed) {
			images = changed
		}
	}
	return to, images
}

// someMorphisms calls a function with alphabets and morphisms between them.
func someMorphisms(seed numbers, longest int, call func(x *numbers, from, to impl.Alphabet, images [][]int64)) {
	x := seed
	list := testAlphabets()
	for _, from := range list {
		to := list[x.below(len(list))]
		call(&x, from, to, someMorphism(&x, from, to, 1+x.below(longest)))
		to, images := someWeakening(&x, from, longest)
		call(&x, from, to, images)
	}
}
