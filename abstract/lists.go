package abstract

import "slices"

// different returns the elements of l with different keys, each at its first place.
func different[T any, K comparable](l []T, key func(x T) K) []T {
	var first []T
	known := map[K]bool{}
	for _, x := range l {
		k := key(x)
		if !known[k] {
			first = append(first, x)
		}
		known[k] = true
	}
	return first
}

// itself is the key of names.
func itself(name string) string {
	return name
}

// increasing returns the different names of a list in increasing order.
func increasing(names []string) []string {
	l := different(names, itself)
	slices.Sort(l)
	return l
}

// common returns the elements of a that are in b, too.
func common(a, b []string) []string {
	return slices.DeleteFunc(slices.Clone(a), func(name string) bool { return !slices.Contains(b, name) })
}

// hasAll reports whether all of some names are in l.
func hasAll(l, names []string) bool {
	return !slices.ContainsFunc(names, func(name string) bool { return !slices.Contains(l, name) })
}
