package table

import (
	"slices"

	"concord/api"
)

// closure returns the set of from, and of all names that follow from it by the dependencies of l.
func closure(l []api.Dep, from []string) map[string]bool {
	known := map[string]bool{}
	for _, name := range from {
		known[name] = true
	}
	open := slices.Clone(l)
	// Each dependency waits for one name at a time, without the names that are known already, so that no element of a From is looked at again and again.
	waiting := map[string][]api.Dep{}
grow:
	for len(open) > 0 {
		d := open[len(open)-1]
		open = open[:len(open)-1]
		for i, name := range d.From {
			if !known[name] {
				waiting[name] = append(waiting[name], api.Dep{From: d.From[i:], To: d.To})
				continue grow
			}
		}
		known[d.To] = true
		open = append(open, waiting[d.To]...)
		delete(waiting, d.To)
	}
	return known
}
