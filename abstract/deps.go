package abstract

import (
	"slices"
	"strconv"

	"concord/api"
	"concord/table"
)

// differentDeps returns the different dependencies of a list, each at its first place, in memory of their own.
func differentDeps(l []api.Dep) []api.Dep {
	first := different(l, keyOf)
	for i, d := range first {
		// Not slices.Clone, as this keeps the memory of a list without elements.
		first[i].From = append([]string(nil), d.From...)
	}
	return first
}

// keyOf returns a string that two dependencies have in common exactly if they are equal: their names, with the length of each one in front of it.
func keyOf(d api.Dep) string {
	var key []byte
	for _, name := range namesOf(d) {
		key = strconv.AppendInt(key, int64(len(name)), 10)
		key = append(key, ':')
		key = append(key, name...)
	}
	return string(key)
}

// namesOf returns all names of a dependency: those of From, and To.
func namesOf(d api.Dep) []string {
	return append(slices.Clone(d.From), d.To)
}

// allHold reports whether all dependencies of l hold for a table.
func allHold(t api.Value, l []api.Dep) bool {
	return !slices.ContainsFunc(l, func(d api.Dep) bool { return !table.Holds(t.Cols, t.Rows, d) })
}

// following returns the dependencies of l that follow from the part of Table of a.
func following(l []api.Dep, a api.Abstract) []api.Dep {
	known, own := knownNames(a), keysOf(a.Deps)
	var all []api.Dep
	for _, d := range l {
		// Most dependencies that are asked for are among those of a, for which no closure has to grow.
		if own[keyOf(d)] || areKnown(namesOf(d), known) && table.Implies(a.Deps, d) {
			all = append(all, d)
		}
	}
	return all
}

// keysOf returns the set of the keys of some dependencies.
func keysOf(l []api.Dep) map[string]bool {
	keys := map[string]bool{}
	for _, d := range l {
		keys[keyOf(d)] = true
	}
	return keys
}

// knownNames returns the set of the names that are among Cols, or occur in Deps.
func knownNames(a api.Abstract) map[string]bool {
	known := map[string]bool{}
	for _, name := range a.Cols {
		known[name] = true
	}
	for _, d := range a.Deps {
		for _, name := range namesOf(d) {
			known[name] = true
		}
	}
	return known
}

// areKnown reports whether all of some names are in a set.
func areKnown(names []string, known map[string]bool) bool {
	return !slices.ContainsFunc(names, func(name string) bool { return !known[name] })
}
