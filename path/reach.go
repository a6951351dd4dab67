package path

import (
	"docstore/api"
)

// Reach returns the values that a path reaches, through lists, too.
func Reach(v api.Value, p []string) []api.Value {
	w := walk{}
	w.follow(&v, p)
	if len(w.found) == 0 {
		return []api.Value{{}}
	}
	return w.found
}

// Leaves returns the values that a path reaches, each list followed by its elements.
func Leaves(v api.Value, p []string) []api.Value {
	var leaves []api.Value
	for _, reached := range Reach(v, p) {
		leaves = append(leaves, reached)
		if reached.Kind != api.KindList {
			continue
		}
		for _, element := range reached.List {
			leaves = append(leaves, copied(element))
		}
	}
	return leaves
}

// walk collects copies of the values that a path passes to.
//
// A document within a list can be entered in two ways, by all steps and by the index as the first one, so that the ways to the same place multiply from list to list. Most of them may lead to nothing; the lists where this has turned out are not entered again.
type walk struct {
	found []api.Value
	dead  map[place]bool
}

// place is a list together with the number of steps that remain there.
type place struct {
	list *api.Value
	left int
}

// follow goes on in a value with the remaining steps.
func (w *walk) follow(v *api.Value, p []string) {
	switch {
	case len(p) == 0:
		w.found = append(w.found, copied(*v))
	case v.Kind == api.KindList:
		w.enter(v, p)
	default:
		w.step(v, p)
	}
}

// enter goes on in a list: in its documents with all steps, and then by its index.
func (w *walk) enter(list *api.Value, p []string) {
	here := place{list, len(p)}
	if w.dead[here] {
		return
	}
	before := len(w.found)
	for i := range list.List {
		if list.List[i].Kind == api.KindDoc {
			w.follow(&list.List[i], p)
		}
	}
	w.step(list, p)
	if len(w.found) == before {
		w.bury(here)
	}
}

// step goes on in the field or the element that the first step selects, if there is one.
func (w *walk) step(v *api.Value, p []string) {
	if at := part(v, p[0]); at != nil {
		w.follow(at, p[1:])
	}
}

func (w *walk) bury(here place) {
	if w.dead == nil {
		w.dead = map[place]bool{}
	}
	w.dead[here] = true
}
