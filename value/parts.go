package value

import (
	"slices"
	"sort"

	"voussoir/api"
	"voussoir/nodes"
)

func list(elements []api.Term) api.Term { return api.Term{Kind: api.KList, Kids: elements} }

func table(entries []api.Term) api.Term { return api.Term{Kind: api.KMap, Kids: entries} }

func join(args []api.Term) api.Term { return list(slices.Concat(args[0].Kids, args[1].Kids)) }

// find returns where the entry of a key begins and ends among those of a map; if there is none, it ends where it would begin.
func find(entries []api.Term, key api.Term) (from, to int) {
	i, there := sort.Find(len(entries)/2, func(i int) int {
		return nodes.Compare(key, entries[2*i])
	})
	if !there {
		return 2 * i, 2 * i
	}
	return 2 * i, 2*i + 2
}

func get(args []api.Term) (api.Term, api.Errno) {
	entries := args[0].Kids
	from, to := find(entries, args[1])
	if from == to {
		return api.Term{}, api.ErrNone
	}
	return entries[from+1], api.OK
}

func has(args []api.Term) bool {
	from, to := find(args[0].Kids, args[1])
	return from < to
}

func put(args []api.Term) (api.Term, api.Errno) {
	entries, key, value := args[0].Kids, args[1], args[2]
	if !nodes.IsKey(key) {
		return api.Term{}, api.ErrKind
	}
	from, to := find(entries, key)
	return table(slices.Replace(slices.Clone(entries), from, to, key, value)), api.OK
}

func del(args []api.Term) api.Term {
	entries := args[0].Kids
	from, to := find(entries, args[1])
	return table(slices.Delete(slices.Clone(entries), from, to))
}

func keys(args []api.Term) api.Term {
	var found []api.Term
	for i := 0; i < len(args[0].Kids); i += 2 {
		found = append(found, args[0].Kids[i])
	}
	return list(found)
}
