package quire

import (
	"strconv"
	"strings"

	"duodecimo/api"
)

// Kinds of items of a formula.
const (
	itemSingle = iota
	itemRange
)

// item is an item of a formula: one gathering, or all from the first signature to the last.
type item struct {
	kind        int
	first, last api.QuSig
	leaves      int
	changes     []api.QuChange
}

// itemsOf returns the fewest items that stand for gatherings.
func itemsOf(gatherings []api.QuGathering) []item {
	var list []item
	for _, g := range gatherings {
		n := len(list)
		if n > 0 && list[n-1].takes(g) {
			list[n-1].kind = itemRange
			list[n-1].last = g.Sig
			continue
		}
		list = append(list, item{kind: itemSingle, first: g.Sig, last: g.Sig, leaves: g.Leaves, changes: g.Changes})
	}
	return list
}

// takes reports whether the item, drawn out to a gathering, stands for it too.
func (x item) takes(g api.QuGathering) bool {
	plain := len(x.changes) == 0 && len(g.Changes) == 0
	return plain && x.leaves == g.Leaves && lettered(x.last) && following(x.last) == g.Sig
}

// gatheringsOf returns the gatherings for which items stand.
func gatheringsOf(items []item) []api.QuGathering {
	var list []api.QuGathering
items:
	for _, x := range items {
		if x.kind == itemSingle {
			list = append(list, api.QuGathering{Sig: x.first, Leaves: x.leaves, Changes: x.changes})
			continue items
		}
		for s := x.first; ; s = following(s) {
			list = append(list, api.QuGathering{Sig: s, Leaves: x.leaves})
			if s == x.last {
				continue items
			}
		}
	}
	return list
}

// text returns how the item is written.
func (x item) text() string {
	text := sigText(x.first)
	if x.kind == itemRange {
		text += "-" + sigText(x.last)
	}
	return text + strconv.Itoa(x.leaves) + changesText(x.changes)
}

// changesText returns how the changes of a gathering are written.
func changesText(changes []api.QuChange) string {
	if len(changes) == 0 {
		return ""
	}
	var texts []string
	for _, c := range changes {
		texts = append(texts, deedOf(c).text())
	}
	return "(" + strings.Join(texts, ",") + ")"
}

// formula returns how items are written with what is signed.
func formula(signed int, items []item) string {
	text := ""
	for _, x := range items {
		text += x.text() + " "
	}
	return text + "$" + strconv.Itoa(signed)
}
