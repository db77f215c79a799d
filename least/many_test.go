package least_test

import (
	"slices"
	"testing"

	"glyphcutter/api"
	"glyphcutter/dfa"
	"glyphcutter/least"
)

// TestRings: 2000 states that go round by one part, in whatever order they stand.
func TestRings(t *testing.T) {
	p := picker(11)
	order := p.shuffled(api.MaxStates)
	for _, tags := range []int{2000, 1000, 40, 3, 1} {
		d, want := plain(api.MaxStates, 1), plain(tags, 1)
		if tags == 3 {
			// Three don't go into 2000: the ring is as long as it was.
			want = plain(api.MaxStates, 1)
		}
		for i, state := range order {
			d.Next[state][0] = order[(i+1)%len(order)]
			d.Tags[state] = i % tags
		}
		for i := range want.Next {
			want.Next[i][0] = (i + 1) % len(want.Next)
			want.Tags[i] = i % tags
		}
		expectOf(t, "a ring", d, want)
	}
}

// TestFarTags: 2000 states behind one another, of which the last one alone has a tag: each is told apart by how far off that is, in as many rounds.
func TestFarTags(t *testing.T) {
	d := plain(api.MaxStates, 1)
	for i := range 1999 {
		d.Next[i][0] = i + 1
	}
	d.Tags[1999] = 4
	expectOf(t, "the last one has a tag", d, d)
	d.Next[1999][0] = 0
	expectOf(t, "and leads to the first one", d, d)
	d.Tags[1999] = -1
	expectOf(t, "none has a tag", d, plain(1, 0))
	d.Tags[0], d.Next[1999][0] = 4, -1
	want := plain(1, 0)
	want.Tags[0] = 4
	expectOf(t, "the first one has a tag", d, want)
}

// TestMostOfAll: 2000 states and as many parts, told apart in few rounds or in very many.
func TestMostOfAll(t *testing.T) {
	p := picker(13)
	near, far := plain(2000, 2000), plain(2000, 2000)
	for i := range near.Next {
		for part := range near.Parts {
			near.Next[i][part] = p.below(2000)
			far.Next[i][part] = p.below(min(i+2, 2000))
		}
		far.Next[i][0] = min(i+1, 1999)
		near.Tags[i] = p.below(2) - 1
	}
	far.Tags[1999] = 0
	for what, d := range map[string]api.Dfa{"near": near, "far": far} {
		m, e := least.Of(d)
		if e != api.OK || len(m.Tags) != 2000 || len(m.Parts) != 2000 || !dfa.Sound(m) {
			t.Fatalf("%s: %d, %d states, %d parts", what, e, len(m.Tags), len(m.Parts))
		}
		for range 10 {
			s := []int{0, 0}
			for range 2000 {
				s = append(s, 2*p.below(2000))
			}
			length, tag := dfa.Longest(d, s)
			if k, got := dfa.Longest(m, s); k != length || got != tag {
				t.Fatalf("%s by %v: %d, %d, want %d, %d", what, s, k, got, length, tag)
			}
		}
	}
}

// fan is a machine that goes from 0 to each of some states by a part, and from each of these on as next says: to the states behind them, each with its own tag.
func fan(wide, tags int, next func(state int) (part, to int)) api.Dfa {
	d := plain(1+wide+tags, wide)
	for i := range wide {
		part, to := next(i)
		d.Next[0][i] = 1 + i
		d.Next[1+i][part] = 1 + wide + to
	}
	for i := range tags {
		d.Tags[1+wide+i] = i
	}
	return d
}

// TestFarStates: states are told apart by where one part leads, and by which part it is that leads, be these 256 apart.
func TestFarStates(t *testing.T) {
	tags := fan(900, 900, func(i int) (int, int) { return 3, i })
	expectOf(t, "by tags", tags, tags)
	parts := fan(1900, 1, func(i int) (int, int) { return i, 0 })
	expectOf(t, "by parts", parts, parts)
	// With many that are dead what is nowhere stays what it was, and nothing else tells these states apart than the part.
	dead := fan(1900, 1, func(i int) (int, int) { return i, 0 })
	dead.Next = append(dead.Next, plain(90, 1900).Next...)
	dead.Tags = append(dead.Tags, plain(90, 1900).Tags...)
	expectOf(t, "by parts, with many that are dead", dead, parts)
	both := fan(1000, 40, func(i int) (int, int) { return i - i%40, i % 40 })
	expectOf(t, "by both", both, both)
}

// TestFarParts: parts are put together by where they lead, be these states 256 apart.
func TestFarParts(t *testing.T) {
	d, want := plain(1000, 1998), plain(1000, 999)
	for i := range d.Parts {
		r := i % 999
		// Each state is come to by two parts, in the order of the first ones.
		d.Next[0][i] = 999 - r
		want.Next[0][r] = 1 + r
		d.Tags[999-r], want.Tags[1+r] = 2*r, 2*r
		want.Parts[r] = spans(2*r, 2*r, 2*(r+999), 2*(r+999))
	}
	expectOf(t, "each state by two parts", d, want)
	for i := range d.Tags {
		d.Tags[i] = -1 + min(i, 1)
	}
	together := plain(2, 1)
	together.Next[0][0], together.Tags[1] = 1, 0
	together.Parts[0] = slices.Concat(plain(1, 1998).Parts...)
	expectOf(t, "all parts to one", d, together)
}

// TestManySpans: parts may have very many spans, which come together.
func TestManySpans(t *testing.T) {
	const many = 100000
	parts := make([][]api.Span, 3)
	for r := range many {
		i := r % 3
		at := r
		if r >= many/2 {
			at += api.HighGap
		}
		parts[i] = append(parts[i], api.Span{Lo: at, Hi: at})
	}
	d := api.Dfa{Parts: parts, Next: [][]int{{1, 1, 1}, {0, 0, 0}}, Tags: []int{-1, 1}}
	expectOf(t, "all together", d, api.Dfa{
		Parts: [][]api.Span{spans(0, many/2-1, many/2+api.HighGap, many-1+api.HighGap)},
		Next:  [][]int{{1}, {0}},
		Tags:  []int{-1, 1},
	})
	d.Next[1][1] = -1
	m, e := least.Of(d)
	if e != api.OK || len(m.Parts) != 2 || !slices.Equal(m.Parts[1], parts[1]) || !dfa.Sound(m) {
		t.Errorf("two together: %d, %d parts", e, len(m.Parts))
	}
}
