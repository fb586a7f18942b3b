package cell_test

import (
	"math"
	"strings"
	"testing"

	"rotulet/api"
	"rotulet/cell"
)

// P7.1: cells that are valid, each of which is encoded, and decoded again.
func TestValid(t *testing.T) {
	for what, c := range map[string]api.Cell{
		"junk":                     junk(),
		"junk, empty slices":       {Kind: api.Junk, Data: []byte{}, Backs: []api.Back{}},
		"no Data":                  {Kind: api.Data},
		"no Data, empty slices":    {Kind: api.Data, Data: []byte{}, Backs: []api.Back{}},
		"a byte":                   data("x"),
		"MaxData bytes":            data(strings.Repeat("x", 100)),
		"stream 0":                 data("", back(0, 5, 4)),
		"stream 15":                data("", back(15, 5, 4)),
		"MaxStreams":               data("hey", back(0, 5, 4), back(1, 5, 4), back(14, 5, 4), back(15, 5, 4)),
		"MaxStreams, MaxData":      data(strings.Repeat("\xff", 100), back(2, 5, 4), back(5, 9, 8), back(6, 3, 2), back(7, 1, 0)),
		"the last one is 0":        data("", back(1, 1, 0)),
		"0 alone":                  data("", back(1, 0, none)),
		"the greatest address":     data("", back(1, api.MaxAddress-1, api.MaxAddress-2)),
		"both ends":                data("", back(1, api.MaxAddress-1, 0)),
		"the greatest alone":       data("", back(1, api.MaxAddress-1, none)),
		"None only":                data("", back(1, none, none)),
		"None in one, not another": data("", back(1, none, none), back(2, 7, none), back(3, 9, 8)),
		"addresses rise by stream": data("", back(1, 5, 4), back(2, 9, 8), back(3, 900, 10)),
	} {
		if !cell.Right(c) {
			t.Errorf("%s: Right: false", what)
		}
		holds(t, what, c)
	}
}

// P7.1, wrong inputs: cells that are not valid.
func TestNotValid(t *testing.T) {
	good := back(1, 5, 4)
	for what, c := range map[string]api.Cell{
		"empty":                         {},
		"kind 0 with all":               {Data: []byte("x"), Backs: []api.Back{good}},
		"kind 3":                        {Kind: 3},
		"kind 3 with all":               {Kind: 3, Data: []byte("x"), Backs: []api.Back{good}},
		"kind -1":                       {Kind: -1},
		"kind 257":                      {Kind: 257},
		"kind 2^32 + 1":                 {Kind: 1<<32 + 1},
		"kind, the least":               {Kind: math.MinInt},
		"kind, the greatest":            {Kind: math.MaxInt},
		"junk with Data":                {Kind: api.Junk, Data: []byte("x")},
		"junk with a 0":                 {Kind: api.Junk, Data: []byte{0}},
		"junk with Backs":               {Kind: api.Junk, Backs: []api.Back{good}},
		"junk with a Back of None":      {Kind: api.Junk, Backs: []api.Back{back(0, none, none)}},
		"junk with both":                {Kind: api.Junk, Data: []byte("x"), Backs: []api.Back{good}},
		"too much Data":                 data(strings.Repeat("x", 101)),
		"128 bytes":                     data(strings.Repeat("x", 128)),
		"256 bytes":                     data(strings.Repeat("x", 256)),
		"very much Data":                data(strings.Repeat("x", 1<<20)),
		"too many Backs":                data("", back(1, 5, 4), back(2, 5, 4), back(3, 5, 4), back(4, 5, 4), back(5, 5, 4)),
		"stream -1":                     data("", back(-1, 5, 4)),
		"stream 16":                     data("", back(16, 5, 4)),
		"streams that are equal":        data("", good, good),
		"streams that are equal, later": data("", back(0, 5, 4), good, back(1, 9, 8)),
		"streams that decrease":         data("", back(2, 5, 4), good),
		"streams that decrease, later":  data("", back(0, 5, 4), back(9, 5, 4), back(8, 5, 4), back(10, 5, 4)),
		"less than the one before last": data("", back(5, 5, 4), back(7, 5, 4), back(6, 5, 4)),
		"MaxAddress":                    data("", back(1, api.MaxAddress, 4)),
		"MaxAddress alone":              data("", back(1, api.MaxAddress, none)),
		"MaxAddress behind":             data("", back(1, none, api.MaxAddress)),
		"MaxAddress and one more":       data("", back(1, api.MaxAddress+1, api.MaxAddress)),
		"None - 1":                      data("", back(1, none-1, none)),
		"None - 1 behind":               data("", back(1, 5, none-1)),
		"addresses that are equal":      data("", back(1, 5, 5)),
		"both 0":                        data("", back(1, 0, 0)),
		"addresses that increase":       data("", back(1, 4, 5)),
		"increase from 0":               data("", back(1, 0, 1)),
		"an address behind a None":      data("", back(1, none, 5)),
		"0 behind a None":               data("", back(1, none, 0)),
		"the greatest behind a None":    data("", back(1, none, api.MaxAddress-1)),
		"the last Back":                 data("", good, back(2, 5, 4), back(3, 5, 4), back(4, 4, 5)),
		"the Back in the middle":        data("", good, back(2, none, 4), back(3, 5, 4)),
	} {
		if cell.Right(c) {
			t.Errorf("%s: Right: true", what)
		}
		holds(t, what, c)
	}
}

// P7.1: any two numbers as a Last, in each of the Backs that a cell may have.
func TestEveryLast(t *testing.T) {
	for _, x := range edges() {
		for _, y := range edges() {
			for n := 1; n <= 4; n++ {
				for at := range n {
					c := data("x", back(1, 5, 4), back(4, none, none), back(9, 7, none), back(12, api.MaxAddress-1, 0))
					c.Backs = c.Backs[:n]
					c.Backs[at].Last = [2]uint64{x, y}
					holds(t, "any Last", c)
				}
			}
		}
	}
}

// P7.1: any number as a stream, any two, and any three.
func TestEveryStream(t *testing.T) {
	for _, x := range streams() {
		holds(t, "a stream", data("x", back(x, 5, 4)))
		for _, y := range streams() {
			holds(t, "two streams", data("x", back(x, 5, 4), back(y, 5, 4)))
			for _, z := range streams() {
				holds(t, "three streams", data("", back(x, 5, 4), back(y, none, none), back(z, 9, none)))
			}
		}
	}
}

// P7.1: any kind with any number of bytes, and of Backs.
func TestEverySize(t *testing.T) {
	kinds := []api.CellKind{math.MinInt, -2, -1, 0, 1, 2, 3, 4, 5, 256 + 1, 256 + 2, 1<<32 + 1, 1<<32 + 2, math.MaxInt}
	for _, kind := range kinds {
		for size := range 131 {
			for n := range 18 {
				c := api.Cell{Kind: kind, Data: []byte(strings.Repeat("x", size))}
				for s := range n {
					c.Backs = append(c.Backs, back(s, 5, 4))
				}
				holds(t, "any kind and size", c)
			}
		}
	}
}
