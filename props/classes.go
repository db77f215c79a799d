package props

import "glyphcutter/api"

// run is scalars from one to another one, both with it.
type run struct {
	lo int
	hi int
}

// class is runs of scalars, and the names of other classes that lie in it whole.
type class struct {
	runs  []run
	parts []string
}

// classes are all of them by their names; none is its own part, nor a part of its parts.
func classes() map[string]class {
	return map[string]class{
		// Over the surrogates too: they are taken out when the set is made.
		"any":      {runs: []run{{0, api.MaxScalar}}},
		"ascii":    {runs: []run{{0, 0x7f}}},
		"blank":    {runs: []run{{0x9, 0x9}, {0x20, 0x20}, {0xa0, 0xa0}, {0x3000, 0x3000}}},
		"cyrillic": {runs: []run{{0x400, 0x4ff}}},
		"digit":    {runs: []run{{0x30, 0x39}, {0x660, 0x669}, {0x966, 0x96f}, {0xff10, 0xff19}}},
		"greek": {runs: []run{
			{0x370, 0x373}, {0x375, 0x377}, {0x37a, 0x37f}, {0x384, 0x384}, {0x386, 0x386}, {0x388, 0x38a},
			{0x38c, 0x38c}, {0x38e, 0x3a1}, {0x3a3, 0x3e1}, {0x3f0, 0x3ff},
		}},
		"han": {runs: []run{{0x3400, 0x4dbf}, {0x4e00, 0x9fff}, {0x20000, 0x2a6df}}},
		"hex": {runs: []run{{0x30, 0x39}, {0x41, 0x46}, {0x61, 0x66}}},
		"latin": {runs: []run{
			{0x41, 0x5a}, {0x61, 0x7a}, {0xaa, 0xaa}, {0xba, 0xba}, {0xc0, 0xd6}, {0xd8, 0xf6}, {0xf8, 0x24f},
		}},
		"letter": {parts: []string{"latin", "greek", "cyrillic", "han"}},
		"lower":  {runs: []run{{0x61, 0x7a}, {0xdf, 0xf6}, {0xf8, 0xff}, {0x3b1, 0x3c9}, {0x430, 0x45f}}},
		"upper": {runs: []run{
			{0x41, 0x5a}, {0xc0, 0xd6}, {0xd8, 0xde}, {0x391, 0x3a1}, {0x3a3, 0x3a9}, {0x400, 0x42f},
		}},
		"word": {runs: []run{{0x5f, 0x5f}}, parts: []string{"letter", "digit"}},
	}
}

// gather is the spans of a class's runs, and those of its parts.
func gather(all map[string]class, name string) []api.Span {
	var out []api.Span
	for _, r := range all[name].runs {
		out = append(out, api.Span{Lo: r.lo, Hi: r.hi})
	}
	for _, part := range all[name].parts {
		out = append(out, gather(all, part)...)
	}
	return out
}
