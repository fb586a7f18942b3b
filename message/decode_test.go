package message_test

import (
	"bytes"
	"strings"
	"testing"

	"rotulet/api"
	"rotulet/message"
)

// P10.1, P10.2: no bytes at all, any byte, any two, and bytes that are all the same.
func TestFewBytes(t *testing.T) {
	reads(t, "nil", nil)
	reads(t, "empty", []byte{})
	for a := range 256 {
		reads(t, "one byte", []byte{byte(a)})
		for b := range 256 {
			reads(t, "two bytes", []byte{byte(a), byte(b)})
		}
		for n := range 40 {
			reads(t, "the same bytes", bytes.Repeat([]byte{byte(a)}, n))
		}
	}
	for _, a := range []byte{0, 1, 0x10, 0x20, 0x80, 0xff} {
		for n := range 400 {
			reads(t, "the same bytes", bytes.Repeat([]byte{a}, n))
			reads(t, "the same bytes behind a beginning", append([]byte{0x10, 0x20, 0x20}, bytes.Repeat([]byte{a}, n)...))
		}
	}
}

// with are a message's digits, one field of which is replaced.
func with(m api.Message, at int, digits string) string {
	l := parts(m)
	l[at] = digits
	return strings.Join(l, "")
}

// P10.1, wrong inputs: bytes that would be a message that is not valid, a field at a time.
func TestDecodeRefusesFields(t *testing.T) {
	above := "1" + strings.Repeat("0", 19) + "1"
	most := strings.Repeat("1", 21)
	one, two := strings.Repeat("0", 20)+"1", strings.Repeat("0", 19)+"10"
	mark, zero := "1"+strings.Repeat("0", 20), strings.Repeat("0", 21)
	type bad struct {
		at     int
		digits string
	}
	for what, x := range map[string]bad{
		"kind 0":                        {kindAt, "0000"},
		"kind 15":                       {kindAt, "1111"},
		"kind 1 of another one":         {kindAt, "0001"},
		"kind 13 of another one":        {kindAt, "1101"},
		"a reply of 0":                  {ofAt, "0000"},
		"a reply of 14":                 {ofAt, "1110"},
		"a reply of 15":                 {ofAt, "1111"},
		"from role 0":                   {fromRoleAt, "000"},
		"from role 5":                   {fromRoleAt, "101"},
		"from role 6":                   {fromRoleAt, "110"},
		"from role 7":                   {fromRoleAt, "111"},
		"from a client 21":              {fromRoleAt, "100"},
		"from a server 21":              {fromRoleAt, "011"},
		"to role 0":                     {toRoleAt, "000"},
		"to role 5":                     {toRoleAt, "101"},
		"to role 7":                     {toRoleAt, "111"},
		"to client 4":                   {toNumberAt, "00100"},
		"to client 31":                  {toNumberAt, "11111"},
		"to client 16":                  {toNumberAt, "10000"},
		"epoch MaxEpoch + 1":            {epochAt, above},
		"the greatest epoch":            {epochAt, most},
		"address MaxAddress + 1":        {addressAt, above},
		"the greatest address":          {addressAt, most},
		"five streams":                  {streamsAt, "101 0000 0001 0010 0011 0100"},
		"six streams":                   {streamsAt, "110 0000 0001 0010 0011 0100 0101"},
		"seven streams":                 {streamsAt, "111 0000 0001 0010 0011 0100 0101 0110"},
		"streams that are equal":        {streamsAt, "010 0100 0100"},
		"streams that decrease":         {streamsAt, "010 0100 0011"},
		"streams that decrease, later":  {streamsAt, "100 0000 0001 0011 0010"},
		"streams 0":                     {streamsAt, "010 0000 0000"},
		"a stream is missing":           {streamsAt, "011 0001 0100"},
		"a stream too much":             {streamsAt, "001 0001 0100"},
		"17 Backs":                      {backsAt, "10001" + spellBacks(backs(0, 15)) + spellBack(back(15, 5, 4))},
		"31 Backs":                      {backsAt, "11111" + spellBacks(backs(0, 15)) + spellBacks(backs(0, 14))},
		"Backs that are equal":          {backsAt, "00010" + spellBacks(backs(3, 3)) + spellBacks(backs(3, 3))},
		"Backs that decrease":           {backsAt, "00010" + spellBacks(backs(4, 4)) + spellBacks(backs(3, 3))},
		"Backs that decrease, later":    {backsAt, "00111" + spellBacks(backs(0, 5)) + spellBacks(backs(4, 4))},
		"a Last above the mark":         {backsAt, "00001 0001" + above + one},
		"a Last that is the greatest":   {backsAt, "00001 0001" + most + one},
		"above the mark, behind":        {backsAt, "00001 0001" + two + above},
		"the greatest, behind":          {backsAt, "00001 0001" + two + most},
		"above the mark, behind None":   {backsAt, "00001 0001" + mark + above},
		"the greatest, behind None":     {backsAt, "00001 0001" + mark + most},
		"above the mark, ahead of None": {backsAt, "00001 0001" + above + mark},
		"addresses that are equal":      {backsAt, "00001 0001" + one + one},
		"both 0":                        {backsAt, "00001 0001" + zero + zero},
		"addresses that increase":       {backsAt, "00001 0001" + one + two},
		"an address behind a None":      {backsAt, "00001 0001" + mark + one},
		"0 behind a None":               {backsAt, "00001 0001" + mark + zero},
		"the sixteenth Back":            {backsAt, "10000" + spellBacks(backs(0, 14)) + "1111" + one + two},
		"a Back is missing":             {backsAt, "00010" + spellBacks(backs(3, 3))},
		"a Back too much":               {backsAt, "00001" + spellBacks(backs(3, 4))},
		"a cell of a byte 0":            {cellAt, "00000001 00000000"},
		"a cell of a byte 1":            {cellAt, "00000001 00000001"},
		"a cell of a byte 3":            {cellAt, "00000001 00000011"},
		"junk with a byte behind":       {cellAt, "00000010 00000010 00000000"},
		"two times junk":                {cellAt, "00000010 00000010 00000010"},
		"data with a byte too much":     {cellAt, "00000011 01000000 00000000 00000000"},
		"data without its byte":         {cellAt, "00000010 01000000 00010000"},
		"data with other padding":       {cellAt, "00000010 01000000 00000001"},
		"data of 101 bytes":             {cellAt, spell(103, 8) + digitsOf(append([]byte{0x46, 0x50}, make([]byte, 101)...))},
		"a cell of 255 bytes":           {cellAt, "11111111" + strings.Repeat("10100101", 255)},
		"a cell's Last increases":       {cellAt, "00001000" + digitsOf(bytesOf("01 001 0000000 0001"+one+two))},
		"a cell's bytes, but no number": {cellAt, "00000000 00000010"},
		"a layout of a byte":            {layoutAt, "00000001 00000000"},
		"a layout of zeros":             {layoutAt, "00001000" + strings.Repeat("0", 64)},
		"a layout of epoch 0":           {layoutAt, "00001000" + digitsOf(bytesOf(zero+"00000 00"+zero[1:]+"00 00 00000"))},
		"a layout that begins at 1":     {layoutAt, "00001000" + digitsOf(bytesOf(one+"00000 00"+one[1:]+"00 00 00000"))},
		"a layout with other padding":   {layoutAt, "00001000 00000000 00000000 00001000 00000000 00000000 00000000 00000000 00000001"},
		"a layout with a byte behind":   {layoutAt, "00001001 00000000 00000000 00001000" + strings.Repeat("0", 48)},
		"a layout without its end":      {layoutAt, "00000111 00000000 00000000 00001000" + strings.Repeat("0", 32)},
		"a layout of 255 bytes":         {layoutAt, "11111111" + strings.Repeat("10100101", 255)},
		"a layout's bytes, no number":   {layoutAt, "00000000 00000000 00000000 00001000"},
	} {
		b := bytesOf(with(given(), x.at, x.digits))
		if m, e := message.Decode(b); e != api.ErrMessage || !alike(m, api.Message{}) {
			t.Errorf("%s: Decode(%x): %s, %d", what, b, tell(m), e)
		}
		reads(t, what, b)
	}
}

// spellBacks tells Backs one after the other.
func spellBacks(l []api.Back) string {
	digits := ""
	for _, b := range l {
		digits += spellBack(b)
	}
	return digits
}

// P10.1: fields that are right in the same place, so that what is refused is refused for its own sake.
func TestDecodeTakesFields(t *testing.T) {
	type good struct {
		at     int
		digits string
		change func(*api.Message)
	}
	for what, x := range map[string]good{
		"of 1":                 {ofAt, "0001", func(m *api.Message) { m.Of = 1 }},
		"of 13":                {ofAt, "1101", func(m *api.Message) { m.Of = 13 }},
		"from unit 21":         {fromRoleAt, "001", func(m *api.Message) { m.From = unit(21) }},
		"from sequencer 31":    {fromNumberAt, "11111", func(m *api.Message) { m.From.Number = 31 }},
		"to server 2":          {toRoleAt, "011", func(m *api.Message) { m.To = place(api.Server, 2) }},
		"to client 3":          {toNumberAt, "00011", func(m *api.Message) { m.To = client(3) }},
		"the greatest ID":      {idAt, strings.Repeat("1", 20), func(m *api.Message) { m.ID = 1048575 }},
		"MaxEpoch":             {epochAt, "1" + strings.Repeat("0", 20), func(m *api.Message) { m.Epoch = api.MaxEpoch }},
		"MaxAddress":           {addressAt, "1" + strings.Repeat("0", 20), func(m *api.Message) { m.Address = api.MaxAddress }},
		"error 255":            {errorAt, "11111111", func(m *api.Message) { m.Error = 255 }},
		"round 65535":          {roundAt, strings.Repeat("1", 16), func(m *api.Message) { m.Ballot.Round = 65535 }},
		"a ballot's client 3":  {clientAt, "11", func(m *api.Message) { m.Ballot.Client = 3 }},
		"promised round 32768": {promisedRoundAt, "1" + strings.Repeat("0", 15), func(m *api.Message) { m.Promised.Round = 32768 }},
		"promised client 0":    {promisedClientAt, "00", func(m *api.Message) { m.Promised.Client = 0 }},
		"no streams":           {streamsAt, "000", func(m *api.Message) { m.Streams = nil }},
		"MaxStreams":           {streamsAt, "100 0000 0111 1000 1111", func(m *api.Message) { m.Streams = []int{0, 7, 8, 15} }},
		"no Backs":             {backsAt, "00000", func(m *api.Message) { m.Backs = nil }},
		"16 Backs":             {backsAt, "10000" + spellBacks(backs(0, 15)), func(m *api.Message) { m.Backs = backs(0, 15) }},
		"an empty cell":        {cellAt, "00000000", func(m *api.Message) { m.Cell = api.Cell{} }},
		"junk":                 {cellAt, "00000001 00000010", func(m *api.Message) { m.Cell = junk() }},
		"data without bytes":   {cellAt, "00000010 01000000 00000000", func(m *api.Message) { m.Cell = data("") }},
		"an empty layout":      {layoutAt, "00000000", func(m *api.Message) { m.Layout = api.Layout{} }},
		"a small layout":       {layoutAt, "00001000 00000000 00000000 00001000" + strings.Repeat("0", 40), func(m *api.Message) { m.Layout = smallLayout() }},
	} {
		want := given()
		x.change(&want)
		b := bytesOf(with(given(), x.at, x.digits))
		if m, e := message.Decode(b); e != api.OK || !alike(m, want) {
			t.Errorf("%s: Decode(%x): %s, %d, want %s", what, b, tell(m), e, tell(want))
		}
		reads(t, what, b)
	}
}

// P10.1: 0, 2, 4 or 6 padding bits (no field that varies has an odd width), each of which must be 0, and no byte more or less than is needed.
func TestPadding(t *testing.T) {
	seen := map[int]bool{}
	s := stir(102)
	for range 1500 {
		m := s.message()
		bits, b := len(digits(m)), spelled(m)
		seen[len(b)*8-bits] = true
		for i := bits; i < len(b)*8; i++ {
			one := bytes.Clone(b)
			one[i/8] |= 128 >> (i % 8)
			if x, e := message.Decode(one); e != api.ErrMessage || !alike(x, api.Message{}) {
				t.Fatalf("bit %d of %x: %s, %d", i, one, tell(x), e)
			}
		}
		for _, x := range [][]byte{b[:len(b)-1], append(bytes.Clone(b), 0), append(bytes.Clone(b), b...), append(bytes.Clone(b), make([]byte, 400)...)} {
			if m, e := message.Decode(x); e != api.ErrMessage || !alike(m, api.Message{}) {
				t.Fatalf("%x: %s, %d", x, tell(m), e)
			}
		}
	}
	if len(seen) != 4 {
		t.Errorf("padding bits: %v", seen)
	}
}

// P10.2, wrong inputs: encodings of which one bit, or two, are turned round, and to which bytes are missing, or added.
func TestDamaged(t *testing.T) {
	for _, m := range some() {
		b := spelled(m)
		for n := range b {
			reads(t, "cut short", b[:n])
			reads(t, "the beginning is missing", b[n+1:])
			reads(t, "a byte is missing", append(bytes.Clone(b[:n]), b[n+1:]...))
		}
		for x := range 256 {
			reads(t, "a byte behind", append(bytes.Clone(b), byte(x)))
			reads(t, "a byte ahead", append([]byte{byte(x)}, b...))
		}
		step := 1 + len(b)
		for i := range len(b) * 8 {
			one := bytes.Clone(b)
			one[i/8] ^= 128 >> (i % 8)
			reads(t, "a bit turned round", one)
			for j := i % step; j < i; j += step {
				one[j/8] ^= 128 >> (j % 8)
				reads(t, "two bits turned round", one)
				one[j/8] ^= 128 >> (j % 8)
			}
		}
	}
}

// P10.2: any fields: counts that agree with what follows, or nearly so, numbers at the edges.
func TestAnyFields(t *testing.T) {
	s := stir(103)
	right := 0
	numbers := []uint64{0, 1, 2, 9, api.MaxAddress - 1, api.MaxAddress, api.MaxAddress, api.MaxAddress + 1, 1<<21 - 1}
	number := func() string { return spell(numbers[s.below(len(numbers))], 21) }
	padding := []string{"", "", "", "1", "00000001", "0000001"}
	for range 25000 {
		l := parts(s.message())
		for range s.below(3) {
			switch at := s.below(layoutAt + 1); at {
			case streamsAt:
				l[at] = spell(uint64(s.below(4)), 3) + spell(uint64(s.below(1<<8)), 8)
			case backsAt:
				l[at] = "00001" + spell(uint64(s.below(16)), 4) + number() + number()
			case cellAt, layoutAt:
				n := s.below(4)
				l[at] = spell(uint64(n), 8) + digitsOf([]byte(s.text(n)))
			case epochAt, addressAt:
				l[at] = number()
			default:
				l[at] = spell(s.next(), len(l[at]))
			}
		}
		all := strings.Join(l, "") + padding[s.below(len(padding))]
		if s.below(8) == 0 {
			all = all[:len(all)-s.below(12)]
		}
		b := bytesOf(all)
		reads(t, "any fields", b)
		if _, is := read(b); is {
			right++
		}
	}
	if right < 3000 || right > 22000 {
		t.Errorf("%d of them were right", right)
	}
}

// P1: many bytes, and any bytes.
func TestAnyBytes(t *testing.T) {
	s := stir(104)
	for _, n := range []int{100, 298, 299, 1000, 1 << 16} {
		reads(t, "many bytes", []byte(s.text(n)))
		reads(t, "an encoding ahead", append(spelled(given()), s.text(n)...))
		reads(t, "the largest ahead", append(spelled(largest()), s.text(n)...))
	}
	for range 20000 {
		b := []byte(s.text(s.below(330)))
		reads(t, "any bytes", b)
		if len(b) > 3 {
			b[0], b[1], b[2] = 0x10, 0x20, 0x20
			reads(t, "any bytes behind a beginning", b)
		}
	}
}

// P2, rule 4: the message doesn't change when the bytes are changed later, nor do the bytes, or another message, when the message is; no two of its lists share memory.
func TestDecodeIsApart(t *testing.T) {
	for _, want := range some() {
		all := append(spelled(want), "behind the end"...)
		b := all[:len(all)-14]
		first, _ := message.Decode(b)
		second, _ := message.Decode(b)
		apart(t, "Decode", second)
		spoil(second)
		if !bytes.Equal(b, spelled(want)) || string(all[len(b):]) != "behind the end" || !alike(first, want) {
			t.Errorf("%s: changed with another message: %x, %s", tell(want), all, tell(first))
		}
		for i := range b {
			b[i]++
		}
		if !alike(first, want) {
			t.Errorf("%s: the message changed with the bytes: %s", tell(want), tell(first))
		}
	}
}

// Rule 4: memory behind the end of the bytes is not read.
func TestDecodeLeavesWhatIsBehind(t *testing.T) {
	for _, want := range some() {
		all := append(spelled(want), "behind the end"...)
		for n := range all {
			x, is := read(all[:n:n])
			m, e := message.Decode(all[:n])
			if is != (e == api.OK) || is && !alike(m, x) {
				t.Errorf("%x: %s, %d", all[:n], tell(m), e)
			}
		}
	}
}
