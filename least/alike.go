package least

import (
	"cmp"
	"slices"
	"strconv"

	"glyphcutter/api"
)

// teller tells the states of a machine apart.
type teller struct {
	back
	class []int // of each state, and of nowhere
	many  int   // how many classes there are
}

// classesOf are numbers for the states of a machine, the same just for those that are alike; the last one is for nowhere, and so for those that are dead.
func classesOf(d api.Dfa) []int {
	t := teller{back: backOf(d.Next, len(d.Parts)), class: make([]int, len(d.Next)+1), many: 1}
	texts := tagsOf(d)
telling:
	for {
		changed := t.split(texts)
		if len(changed) == 0 {
			break telling
		}
		texts = t.texts(changed)
	}
	return t.class
}

// tagsOf are texts of the tags of a machine's states, and of nowhere, which has none.
func tagsOf(d api.Dfa) [][]byte {
	var out [][]byte
	for _, tag := range d.Tags {
		out = append(out, strconv.AppendInt(nil, int64(tag), 10))
	}
	return append(out, strconv.AppendInt(nil, -1, 10))
}

// texts are texts of each state's class, and of where parts lead from it to states that have changed theirs: to all others they lead as from the rest of its class.
func (t *teller) texts(changed []int) [][]byte {
	out := make([][]byte, len(t.class))
	for state, class := range t.class {
		out[state] = []byte{byte(class >> 8), byte(class)}
	}
	for part := range t.back {
		for _, to := range changed {
			class := t.class[to]
			for _, from := range t.leading(part, to) {
				out[from] = append(out[from], byte(part>>8), byte(part), byte(class>>8), byte(class))
			}
		}
	}
	return out
}

// split parts each class by the texts of its states, and tells which states have another class then.
// Of each class the most of one text stay what they were: so no state changes its class often, however many rounds there are.
func (t *teller) split(texts [][]byte) []int {
	groups := alike(texts)
	slices.SortStableFunc(groups, func(x, y []int) int { return cmp.Compare(len(y), len(x)) })
	stays := make([]bool, t.many)
	var changed []int
	for _, group := range groups {
		class := t.class[group[0]]
		if !stays[class] {
			stays[class] = true
			continue
		}
		for _, state := range group {
			t.class[state] = t.many
		}
		t.many++
		changed = append(changed, group...)
	}
	return changed
}

// alike are the places of texts, those together at which the same stands.
func alike(texts [][]byte) [][]int {
	var out [][]int
	known := map[string]int{}
	for i, text := range texts {
		group, again := known[string(text)]
		if !again {
			group = len(out)
			known[string(text)] = group
			out = append(out, nil)
		}
		out[group] = append(out[group], i)
	}
	return out
}
