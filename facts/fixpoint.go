package facts

// fixpoint repeats a round until it changes no element of a list. A round gets the indexes of the elements that the one before it has changed, at first of all elements, and a function that combines an element with another value, which changes it or not. The elements that a round has not seen yet can already be changed by it.
func fixpoint[T any](list []T, combine func(old, other T) (combined T, changed bool), round func(fresh []int, put func(i int, other T))) {
	fresh := make([]int, len(list))
	for i := range fresh {
		fresh[i] = i
	}
	listed := make([]bool, len(list))
	for len(fresh) > 0 {
		var next []int
		round(fresh, func(i int, other T) {
			combined, changed := combine(list[i], other)
			if !changed {
				return
			}
			list[i] = combined
			if !listed[i] {
				listed[i] = true
				next = append(next, i)
			}
		})
		for _, i := range next {
			listed[i] = false
		}
		fresh = next
	}
}
