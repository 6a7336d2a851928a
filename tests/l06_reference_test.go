package tests

import (
	"math/big"
	"math/bits"
	"slices"

	"loop.example/g01094/impl"
)

// The functions of this file follow the definitions of chapter 6: for few traces by listing their
// normal forms, and for many by the steps of their Foata forms, one after the other.

// listing has the traces of an alphabet with one length: their normal forms in ascending order, and
// how many of them have each height, each set of first letters and each content.
type listing struct {
	x                impl.Alphabet
	length           int
	normals          [][]int64
	heights          []int64
	firsts, contents map[string]int64
}

func listingOf(x impl.Alphabet, length int, normals [][]int64) listing {
	l := listing{x, length, normals, make([]int64, length+1), map[string]int64{}, map[string]int64{}}
	for _, w := range normals {
		l.heights[len(refFoata(x, w))]++
		first := int64(0)
		for _, a := range startLetters(x, w) {
			first |= 1 << a
		}
		l.firsts[key(first)]++
		l.contents[key(refContent(x, w))]++
	}
	return l
}

// normalsOfClasses returns the first words of the classes of all words with a length.
func normalsOfClasses(x impl.Alphabet, length int) [][]int64 {
	return slices.DeleteFunc(allWords(int(x.Letters), length), func(w []int64) bool {
		return !slices.Equal(refNormalForm(x, w), w)
	})
}

// isNormal reports whether w is a normal form.
func isNormal(x impl.Alphabet, w []int64) bool { return slices.Equal(refExtreme(x, w, 1), w) }

// longerNormals returns the normal forms with one letter more than some normal forms, all those with
// one length: each beginning of a normal form is one.
func longerNormals(x impl.Alphabet, normals [][]int64) [][]int64 {
	var longer [][]int64
	for _, w := range normals {
		for a := range x.Letters {
			if v := append(slices.Clone(w), a); isNormal(x, v) {
				longer = append(longer, v)
			}
		}
	}
	return longer
}

// contentsWith returns all lists of n numbers of at least 0 with a sum.
func contentsWith(n, sum int) [][]int64 {
	if n == 0 && sum == 0 {
		return [][]int64{{}}
	}
	var list [][]int64
	for last := 0; last <= sum && n > 0; last++ {
		for _, content := range contentsWith(n-1, sum-last) {
			list = append(list, append(content, int64(last)))
		}
	}
	return list
}

// refPolynomial counts the sets of each size any two different letters of which are independent.
func refPolynomial(x impl.Alphabet) []int64 {
	coefficients := make([]int64, x.Letters+1)
	for _, s := range refSteps(x) {
		if size := len(refMembers(s)); size%2 == 0 {
			coefficients[size]++
		} else {
			coefficients[size]--
		}
	}
	for coefficients[len(coefficients)-1] == 0 {
		coefficients = coefficients[:len(coefficients)-1]
	}
	return coefficients
}

// refInverse returns the first elements of the inverse of a list, however great they are.
func refInverse(p []int64, n int) []*big.Int {
	q := []*big.Int{big.NewInt(1)}
	for len(q) <= n {
		sum := big.NewInt(0)
		for i := 1; i < len(p) && i <= len(q); i++ {
			sum.Sub(sum, new(big.Int).Mul(big.NewInt(p[i]), q[len(q)-i]))
		}
		q = append(q, sum)
	}
	return q
}

// foata has the steps of an alphabet that are not empty, with the number of letters of each, and the
// indices of those that can stand behind it in a Foata form: each of their letters depends on one of
// it.
type foata struct {
	steps  []int64
	sizes  []int
	behind [][]int
}

func foataOf(x impl.Alphabet) foata {
	f := foata{steps: refSteps(x)[1:]}
	for _, v := range f.steps {
		near := int64(0)
		for _, a := range refMembers(v) {
			near |= x.Depends[a]
		}
		var behind []int
		for k, w := range f.steps {
			if w&^near == 0 {
				behind = append(behind, k)
			}
		}
		f.sizes, f.behind = append(f.sizes, bits.OnesCount64(uint64(v))), append(f.behind, behind)
	}
	return f
}

// tooMany stands for each number greater than MaxCount.
const tooMany = impl.MaxCount + 1

// bySize has a number for each number of letters.
type bySize [25]int64

func (b *bySize) add(n int, number int64) { b[n] = min(b[n]+number, tooMany) }

// refByHeight returns, for each height, the numbers of traces with this height: it puts step behind
// step.
func refByHeight(x impl.Alphabet) [25]bySize {
	f := foataOf(x)
	numbers := [25]bySize{{1}}
	current := make([]bySize, len(f.steps)) // by the last step
	for i, size := range f.sizes {
		current[i][size] = 1
	}
	for height := 1; height <= 24; height++ {
		next := make([]bySize, len(f.steps))
		for i := range f.steps {
			for n, number := range current[i] {
				numbers[height].add(n, number)
				if number == 0 {
					continue
				}
				for _, k := range f.behind[i] {
					if n+f.sizes[k] <= 24 {
						next[k].add(n+f.sizes[k], number)
					}
				}
			}
		}
		current = next
	}
	return numbers
}

// refByFirst returns, for each set of letters, the numbers of traces with this set of first letters,
// which are the first step.
func refByFirst(x impl.Alphabet) []bySize {
	f := foataOf(x)
	numbers := make([]bySize, 1<<x.Letters)
	numbers[0][0] = 1
	for n := 1; n <= 24; n++ {
		for i, v := range f.steps {
			left := n - f.sizes[i]
			if left == 0 {
				numbers[v][n] = 1
			}
			for _, k := range f.behind[i] {
				if left > 0 {
					numbers[v].add(n, numbers[f.steps[k]][left])
				}
			}
		}
	}
	return numbers
}

// refTotal adds up the numbers of traces with n letters by their first steps.
func refTotal(byFirst []bySize, n int) int64 {
	var sum bySize
	for _, numbers := range byFirst {
		sum.add(n, numbers[n])
	}
	return sum[n]
}

// refOfContent returns the number of traces with a content, by their first steps.
func refOfContent(x impl.Alphabet, content []int64) int64 {
	f := foataOf(x)
	size := int64(1)
	weights := make([]int64, len(f.steps))
	for a, times := range content {
		for i, v := range f.steps {
			if isMember(v, a) {
				weights[i] += size
			}
		}
		size *= times + 1
	}
	numbers := make([][]int64, len(f.steps)) // of each first step, for each content
	for i := range numbers {
		numbers[i] = make([]int64, size)
	}
	total := int64(1) // of the last content
	for c := int64(1); c < size; c++ {
		total = 0
		occurring, rest := int64(0), c
		for a, times := range content {
			if rest%(times+1) > 0 {
				occurring |= 1 << a
			}
			rest /= times + 1
		}
		for i, v := range f.steps {
			if v&^occurring != 0 {
				continue
			}
			if c == weights[i] {
				numbers[i][c] = 1
			}
			for _, k := range f.behind[i] {
				numbers[i][c] += numbers[k][c-weights[i]]
			}
			total += numbers[i][c]
		}
	}
	return total
}

// refRank returns the number of normal forms with as many letters as w, a normal form itself, that
// are smaller: those that have a smaller letter at the first place where they differ. Behind the
// beginning u of a normal form can stand the normal forms none of whose first letters makes u longer
// without giving a normal form.
func refRank(x impl.Alphabet, byFirst []bySize, w []int64) int64 {
	rank := int64(0)
	for i, next := range w {
		for a := range next {
			u := append(slices.Clone(w[:i]), a)
			if !isNormal(x, u) {
				continue
			}
			barred := int64(0)
			for b := range x.Letters {
				if !isNormal(x, append(slices.Clone(u), b)) {
					barred |= 1 << b
				}
			}
			for first, numbers := range byFirst {
				if int64(first)&barred == 0 {
					rank += numbers[len(w)-len(u)]
				}
			}
		}
	}
	return rank
}

// refNextNormal returns the least normal form that is greater than w and as long, or nil.
func refNextNormal(x impl.Alphabet, w []int64) []int64 {
	for i := len(w) - 1; i >= 0; i-- {
		for b := w[i] + 1; b < x.Letters; b++ {
			next := append(slices.Clone(w[:i]), b)
			if !isNormal(x, next) {
				continue
			}
			for len(next) < len(w) {
				a := int64(0)
				for !isNormal(x, append(slices.Clone(next), a)) {
					a++
				}
				next = append(next, a)
			}
			return next
		}
	}
	return nil
}

// refLast returns the greatest normal form with a length, in an alphabet with letters: its letters
// are the greatest that can come next.
func refLast(x impl.Alphabet, length int) []int64 {
	last := []int64{}
	for len(last) < length {
		a := x.Letters - 1
		for !isNormal(x, append(slices.Clone(last), a)) {
			a--
		}
		last = append(last, a)
	}
	return last
}
