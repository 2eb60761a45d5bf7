package table

import "slices"

// elements returns the elements of l at some places.
func elements[T any](l []T, places []int) []T {
	var picked []T
	for _, place := range places {
		picked = append(picked, l[place])
	}
	return picked
}

// without returns l without the element at a place.
func without[T any](l []T, place int) []T {
	return slices.Concat(l[:place], l[place+1:])
}

// haveCommonName reports whether a name is in both lists.
func haveCommonName(a, b []string) bool {
	return slices.ContainsFunc(a, func(name string) bool { return slices.Contains(b, name) })
}

// firstPlaces returns the index of the first column with each name.
func firstPlaces(cols []string) map[string]int {
	places := map[string]int{}
	for place, name := range cols {
		if _, ok := places[name]; !ok {
			places[name] = place
		}
	}
	return places
}

// inOrder puts names into increasing order, each once.
func inOrder(names []string) []string {
	slices.Sort(names)
	return slices.Compact(names)
}
