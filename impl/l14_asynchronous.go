package impl

const (
	MaxParties = 4
	MaxLocal   = 4
	MaxJoints  = 64
	MaxFinals  = 64
)

type Joint struct {
	Letter   int64
	From, To []int64
}

type Asynchronous struct {
	Places       []int64
	Sizes, Start []int64
	Joints       []Joint
	Final        [][]int64
}

// IsAsynchronous reports whether z is an asynchronous automaton.
func IsAsynchronous(z Asynchronous) bool { return false }

// AlphabetOfPlaces returns the alphabet of places for n processes, and ErrNone. Errors:
// ErrInvalid also if n is not in 1..MaxParties.
func AlphabetOfPlaces(n int64, places []int64) (Alphabet, int64) { return Alphabet{}, 0 }

// PossibleLetters returns the mask of the letters that are possible in a global state, and
// ErrNone.
func PossibleLetters(z Asynchronous, g []int64) (int64, int64) { return 0, 0 }

// RunFrom returns the global state to which a word leads from a global state, and ErrNone.
// Errors: ErrNotFound if a letter is not possible on the way.
func RunFrom(z Asynchronous, g []int64, w []int64) ([]int64, int64) { return nil, 0 }

// AcceptsTrace reports whether z accepts w, and returns ErrNone.
func AcceptsTrace(z Asynchronous, w []int64) (bool, int64) { return false, 0 }

// LocalPath returns the local states of process p that w leads through from Start: the first
// one, and the one after each letter in which p takes part, in order; and ErrNone. Errors:
// ErrNotFound if a letter is not possible on the way.
func LocalPath(z Asynchronous, w []int64, p int64) ([]int64, int64) { return nil, 0 }

// GlobalStates returns all global states to which words lead from Start, in ascending
// lexicographic order, and ErrNone. Errors: ErrLimit if there are more than MaxList (chapter
// 11).
func GlobalStates(z Asynchronous) ([][]int64, int64) { return nil, 0 }

// StuckStates returns those of them in which no letter is possible, in the same order, and
// ErrNone. Errors: ErrLimit if these are more than MaxList.
func StuckStates(z Asynchronous) ([][]int64, int64) { return nil, 0 }

// GlobalAutomaton returns the minimal automaton (chapter 11) of the language of z, and ErrNone.
// Errors: ErrLimit if it has more than MaxStates states.
func GlobalAutomaton(z Asynchronous) (Automaton, int64) { return Automaton{}, 0 }

// ProductOf returns the asynchronous automaton with as many processes as there are automata, 1
// to MaxParties, in which process p has the states and the start of the p-th automaton: there
// is a joint of a letter wherever it is possible in the states of all processes that take part,
// and it leads each of these to the state to which it leads in its automaton; the final global
// states are those in which each local state is final; and ErrNone. Letters in which p does not
// take part have no influence on it. Errors: ErrInvalid also if there are no automata or too
// many, or places have processes without an automaton; ErrRange if an automaton has another
// number of letters than the places; ErrLimit if an automaton has more than MaxLocal states, or
// there would be more than MaxJoints joints or MaxFinals final global states.
func ProductOf(places []int64, locals []Automaton) (Asynchronous, int64) { return Asynchronous{}, 0 }

// ProjectionAutomaton returns the minimal automaton of the projection of the language of m on a
// mask of letters, with as many letters as m, and ErrNone. Errors: ErrLimit if it has more than
// MaxStates states.
func ProjectionAutomaton(m Automaton, mask int64) (Automaton, int64) { return Automaton{}, 0 }

// IsProductLanguage reports whether the language of m is a product language for places of n
// processes, and returns ErrNone. Errors: ErrInvalid also if n is not in 1..MaxParties;
// ErrRange if m has another number of letters than the places; ErrLimit if a projection on the
// letters of a process has a minimal automaton with more than MaxStates states.
func IsProductLanguage(n int64, places []int64, m Automaton) (bool, int64) { return false, 0 }
