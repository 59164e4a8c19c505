package curve

import (
	"iter"
)

// sums tells of each bucket, one behind the other, the sum of the weights ahead of it, and that with its own.
func sums(w []int) iter.Seq2[int, int] {
	return func(yield func(ahead, through int) bool) {
		ahead := 0
		for _, weight := range w {
			through := ahead + weight
			if !yield(ahead, through) {
				return
			}
			ahead = through
		}
	}
}

// doneBy is what is done of a curve at a time, times the span. Ticks are cut into as many pieces as there are buckets, so that a bucket has a whole number of them: just span. What is made here is at most MaxBuckets · MaxWeight · MaxSpan, which is 2^56.
func doneBy(w []int, t, span int) int {
	left := t * len(w)
	num := 0
reached:
	for ahead, through := range sums(w) {
		switch {
		case left < span:
			num = ahead*span + (through-ahead)*left
			break reached
		default:
			num = through * span
			left -= span
		}
	}
	return num
}
