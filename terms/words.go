package terms

import (
	"maps"
	"slices"

	"glyphcutter/api"
)

// signs is how many sets one sign tells of: one by each of its bits.
const signs = 64

// sign is which of so many sets have a scalar.
type sign uint64

// more is what a word is made of, when it is known which of some more sets have its scalars.
type more struct {
	word int
	in   sign
}

// endsOf are the numbers with which one of the sets begins, or with which it has just ended, rising, and the place of each.
// From each to the next one goes a run of scalars that are alike.
func endsOf(sets [][]api.Span) ([]int, map[int]int) {
	places := map[int]int{}
	for _, s := range sets {
		for _, span := range s {
			places[span.Lo] = 0
			places[span.Hi+1] = 0
		}
	}
	ends := slices.Sorted(maps.Keys(places))
	for i, end := range ends {
		places[end] = i
	}
	return ends, places
}

// wordsOf are the words of the runs: the same just if the same of the sets have them; 0, if none has.
func wordsOf(sets [][]api.Span, places map[int]int) []int {
	words := make([]int, len(places))
	last := 0
	// A word is a number, and not all the signs in a row: of very many sets these would need very much room.
	for some := range slices.Chunk(sets, signs) {
		last = lengthen(words, last, turnsOf(some, places))
	}
	return words
}

// lengthen gives those runs new words, from last on, that one of some more sets has; it answers the last word then.
func lengthen(words []int, last int, turns map[int]sign) int {
	known := map[more]int{}
	rising := slices.Sorted(maps.Keys(turns))
	in := sign(0)
	for i, from := range rising {
		in ^= turns[from]
		// Where a set has begun, it will have ended at a later one of these.
		for run := from; in != 0 && run < rising[i+1]; run++ {
			key := more{word: words[run], in: in}
			if known[key] == 0 {
				last++
				known[key] = last
			}
			words[run] = known[key]
		}
	}
	return last
}

// turnsOf tells of each place at which some sets begin, or have just ended, which they are.
func turnsOf(sets [][]api.Span, places map[int]int) map[int]sign {
	turns := map[int]sign{}
	for i, s := range sets {
		for _, span := range s {
			turns[places[span.Lo]] ^= 1 << i
			turns[places[span.Hi+1]] ^= 1 << i
		}
	}
	return turns
}
