package tests

import (
	"cmp"
	"fmt"
	"slices"

	"loop.example/g01094/impl"
)

// The functions of this file follow the definitions of chapter 3 word by word: classes are found by
// exchanges alone, and all that is said of a trace is said of its class.

// word returns the word with a text, in which no letters have no text.
func word(text string) []int64 {
	w := []int64{}
	for _, c := range text {
		w = append(w, int64(c-'a'))
	}
	return w
}

// words returns the words with some texts.
func words(texts ...string) [][]int64 {
	list := [][]int64{}
	for _, text := range texts {
		list = append(list, word(text))
	}
	return list
}

// square returns the alphabet that the document calls so.
func square() impl.Alphabet { return alphabetWith(11, 7, 14, 13) }

func refIsWord(x impl.Alphabet, w []int64) bool {
	for _, a := range w {
		if a < 0 || a >= x.Letters {
			return false
		}
	}
	return refIsAlphabet(x) && len(w) <= 24
}

func refWordText(w []int64) string {
	text := ""
	for _, a := range w {
		text += "abcdefgh"[a : a+1]
	}
	if text == "" {
		return "-"
	}
	return text
}

// refNeighbours returns the words that one exchange of independent neighbours makes of w.
func refNeighbours(x impl.Alphabet, w []int64) [][]int64 {
	list := [][]int64{}
	for i := 0; i+1 < len(w); i++ {
		if w[i] != w[i+1] && !related(x.Depends, int(w[i]), int(w[i+1])) {
			v := slices.Clone(w)
			v[i], v[i+1] = v[i+1], v[i]
			list = append(list, v)
		}
	}
	slices.SortFunc(list, slices.Compare)
	return list
}

// refClass returns all words that exchanges make of w, or nil if there are more than a limit.
func refClass(x impl.Alphabet, w []int64, limit int) [][]int64 {
	class := [][]int64{w}
	found := map[string]bool{refWordText(w): true}
	for i := 0; i < len(class); i++ {
		for _, v := range refNeighbours(x, class[i]) {
			if text := refWordText(v); !found[text] {
				found[text] = true
				class = append(class, v)
			}
		}
		if len(class) > limit {
			return nil
		}
	}
	slices.SortFunc(class, slices.Compare)
	return class
}

// refNormalForm returns the first word of the class.
func refNormalForm(x impl.Alphabet, w []int64) []int64 { return refClass(x, w, 1<<20)[0] }

func refHeights(x impl.Alphabet, w []int64) []int {
	heights := make([]int, len(w))
	for i := range w {
		heights[i] = 1
		for k := range i {
			if related(x.Depends, int(w[k]), int(w[i])) {
				heights[i] = max(heights[i], 1+heights[k])
			}
		}
	}
	return heights
}

func refFoata(x impl.Alphabet, w []int64) []int64 {
	heights := refHeights(x, w)
	steps := []int64{}
	for height := 1; slices.Contains(heights, height); height++ {
		step := int64(0)
		for i, a := range w {
			if heights[i] == height {
				step |= 1 << a
			}
		}
		steps = append(steps, step)
	}
	return steps
}

func refProjection(w []int64, mask int64) []int64 {
	return slices.DeleteFunc(slices.Clone(w), func(a int64) bool { return !isMember(mask, int(a)) })
}

func refPairProjections(x impl.Alphabet, w []int64) [][]int64 {
	list := [][]int64{}
	for a := range x.Depends {
		for b := range x.Depends {
			if a <= b && related(x.Depends, a, b) {
				list = append(list, refProjection(w, 1<<a|1<<b))
			}
		}
	}
	return list
}

func refContent(x impl.Alphabet, w []int64) []int64 {
	content := make([]int64, x.Letters)
	for a := range content {
		content[a] = int64(len(refProjection(w, 1<<a)))
	}
	return content
}

// refCount returns the number of words of the trace of w: for each set of positions of w with
// which one of these words can begin, it adds up the numbers for the sets with one position less.
func refCount(x impl.Alphabet, w []int64) int64 {
	counts := map[int]int64{0: 1}
	for range w {
		longer := map[int]int64{}
		for done, n := range counts {
			for i := range w {
				isNext := done>>i&1 == 0
				for k := range i {
					isNext = isNext && (done>>k&1 == 1 || !related(x.Depends, int(w[k]), int(w[i])))
				}
				if isNext {
					longer[done|1<<i] += n
				}
			}
		}
		counts = longer
	}
	return counts[1<<len(w)-1]
}

// refStarts returns the indices in w of the letters that exchanges can bring to its beginning.
func refStarts(x impl.Alphabet, w []int64) []int {
	var list []int
	for i, a := range w {
		if !slices.ContainsFunc(w[:i], func(b int64) bool { return related(x.Depends, int(a), int(b)) }) {
			list = append(list, i)
		}
	}
	return list
}

// refExtreme returns the least word of the trace of w, or the greatest one if the sign is -1, where
// the class is too large to be listed: again and again the letter that is the best one to begin
// what is left.
func refExtreme(x impl.Alphabet, w []int64, sign int64) []int64 {
	extreme := []int64{}
	for left := slices.Clone(w); len(left) > 0; {
		best := slices.MinFunc(refStarts(x, left), func(i, k int) int { return cmp.Compare(sign*left[i], sign*left[k]) })
		extreme = append(extreme, left[best])
		left = slices.Delete(left, best, best+1)
	}
	return extreme
}

// refNextWord returns the least word of the trace of w that is greater than w, or nil: it has as
// much of w as its beginning as it can have.
func refNextWord(x impl.Alphabet, w []int64) []int64 {
	for i := len(w) - 1; i >= 0; i-- {
		left := slices.Clone(w[i:])
		greater := slices.DeleteFunc(refStarts(x, left), func(k int) bool { return left[k] <= left[0] })
		if len(greater) > 0 {
			best := slices.MinFunc(greater, func(k, j int) int { return cmp.Compare(left[k], left[j]) })
			next := append(slices.Clone(w[:i]), left[best])
			return append(next, refExtreme(x, slices.Delete(left, best, best+1), 1)...)
		}
	}
	return nil
}

func reversed(w []int64) []int64 {
	v := slices.Clone(w)
	slices.Reverse(v)
	return v
}

// allWords returns all words of n letters with a length.
func allWords(n, length int) [][]int64 {
	list := [][]int64{{}}
	for range length {
		var longer [][]int64
		for _, w := range list {
			for a := range n {
				longer = append(longer, append(slices.Clone(w), int64(a)))
			}
		}
		list = longer
	}
	return list
}

// wordsUpTo returns all words of n letters with at most a length.
func wordsUpTo(n, length int) [][]int64 {
	var list [][]int64
	for k := range length + 1 {
		list = append(list, allWords(n, k)...)
	}
	return list
}

// someWord returns a word of n letters with a length.
func someWord(x *numbers, n, length int) []int64 {
	w := make([]int64, length)
	for i := range w {
		w[i] = int64(x.below(n))
	}
	return w
}

// exchanged returns a word that so many exchanges of independent neighbours make of w.
func exchanged(x *numbers, y impl.Alphabet, w []int64, times int) []int64 {
	for range times {
		if list := refNeighbours(y, w); len(list) > 0 {
			w = list[x.below(len(list))]
		}
	}
	return w
}

// key returns a text that tells lists of lists apart.
func key(lists any) string { return fmt.Sprint(lists) }
