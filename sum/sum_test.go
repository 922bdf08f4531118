package sum

import (
	"bytes"
	"slices"
	"testing"

	"intarsia/api"
)

const digits = "123456789"

// sample is n bytes, of which no few neighbours are alike.
func sample(n int) []byte {
	b := make([]byte, n)
	for i := range b {
		b[i] = byte(i*i*37 + i*11 + 5)
	}
	return b
}

func count(from, by int) []byte {
	b := make([]byte, 32)
	for i := range b {
		b[i] = byte(from + by*i)
	}
	return b
}

func checkSum(t *testing.T, what string, got, want uint32) {
	t.Helper()
	if got != want {
		t.Errorf("%s = %08x; want %08x", what, got, want)
	}
}

func checkOpened(t *testing.T, sealed, want []byte, wantErr api.Errno) {
	t.Helper()
	got, err := Open(sealed)
	if err != wantErr || !bytes.Equal(got, want) {
		t.Errorf("Open(% x) = % x, %d; want % x, %d", sealed, got, int(err), want, int(wantErr))
	}
	if err != api.OK && got != nil {
		t.Errorf("Open(% x) tells an error and bytes", sealed)
	}
}

// byDefinition goes as P2.1 words it, bit by bit, with numbers too wide to
// lose anything.
func byDefinition(b []byte) uint32 {
	reg := uint64(1)<<32 - 1
	for _, c := range b {
		reg ^= uint64(c)
		for range 8 {
			if reg%2 == 1 {
				reg = reg/2 ^ 0x82f63b78
			} else {
				reg /= 2
			}
		}
	}
	return uint32(uint64(1)<<32 - 1 - reg)
}

// P2.1

func TestOfKnownSums(t *testing.T) {
	checkSum(t, "Of(digits)", Of([]byte(digits)), 0xe3069283)
	checkSum(t, "Of 32 noughts", Of(make([]byte, 32)), 0x8a9136aa)
	checkSum(t, "Of 32 times 255", Of(bytes.Repeat([]byte{255}, 32)), 0x62a8ab43)
	checkSum(t, "Of 0 to 31", Of(count(0, 1)), 0x46dd794e)
	checkSum(t, "Of 31 to 0", Of(count(31, -1)), 0x113fdb5c)
}

func TestOfEachByteAndLength(t *testing.T) {
	for c := range 256 {
		b := []byte{byte(c)}
		checkSum(t, "Of a byte", Of(b), byDefinition(b))
	}
	for n := range 300 {
		checkSum(t, "Of a sample", Of(sample(n)), byDefinition(sample(n)))
	}
}

func TestOfNothingIs0(t *testing.T) {
	checkSum(t, "Of()", Of(), 0)
	checkSum(t, "Of(nil)", Of(nil), 0)
	checkSum(t, "Of of empty parts", Of([]byte{}, nil, []byte{}), 0)
	checkSum(t, "Of of a list of no parts", Of([][]byte{}...), 0)
}

func TestOfPartsIsOfThemJoined(t *testing.T) {
	b := []byte(digits)
	want := Of(b)
	for i := range len(b) + 1 {
		for j := i; j <= len(b); j++ {
			checkSum(t, "Of three parts", Of(b[:i], b[i:j], b[j:]), want)
			checkSum(t, "Of parts and empty ones", Of(nil, b[:i], []byte{}, b[i:j], b[j:], nil), want)
		}
	}
	var single [][]byte
	for i := range b {
		single = append(single, b[i:i+1])
	}
	checkSum(t, "Of a part a byte", Of(single...), want)
	slices.Reverse(single)
	if Of(single...) == want {
		t.Error("the order of the parts makes no difference")
	}
}

func TestMoreGoesOnFromASum(t *testing.T) {
	b := sample(100)
	want := byDefinition(b)
	checkSum(t, "More from nothing", More(0, b), want)
	for i := range len(b) + 1 {
		checkSum(t, "More", More(Of(b[:i]), b[i:]), want)
	}
	crc := Of()
	for i := range b {
		crc = More(crc, b[i:i+1])
		checkSum(t, "More by one byte", crc, byDefinition(b[:i+1]))
	}
}

func TestMoreOfNothingIsTheSumAsItWas(t *testing.T) {
	for _, crc := range []uint32{0, 1, 0x80000000, 0xe3069283, 0xffffffff} {
		checkSum(t, "More(crc, nil)", More(crc, nil), crc)
		checkSum(t, "More(crc, empty)", More(crc, []byte{}), crc)
	}
}

// P2.2

func TestSealPutsTheSumBehindTheHighestByteFirst(t *testing.T) {
	for _, c := range []struct {
		b    []byte
		want []byte
	}{
		{nil, []byte{0, 0, 0, 0}},
		{[]byte{}, []byte{0, 0, 0, 0}},
		{[]byte(digits), append([]byte(digits), 0xe3, 0x06, 0x92, 0x83)},
		{make([]byte, 32), append(make([]byte, 32), 0x8a, 0x91, 0x36, 0xaa)},
	} {
		if got := Seal(c.b); !bytes.Equal(got, c.want) {
			t.Errorf("Seal(% x) = % x; want % x", c.b, got, c.want)
		}
	}
}

func TestOpenOfFewerThanFourBytesIsCut(t *testing.T) {
	for n := range 4 {
		checkOpened(t, make([]byte, n), nil, api.ErrCut)
		checkOpened(t, sample(n), nil, api.ErrCut)
		checkOpened(t, bytes.Repeat([]byte{255}, n), nil, api.ErrCut)
	}
	checkOpened(t, nil, nil, api.ErrCut)
}

func TestOpenOfFourBytes(t *testing.T) {
	checkOpened(t, []byte{0, 0, 0, 0}, nil, api.OK)
	for _, b := range [][]byte{{0, 0, 0, 1}, {1, 0, 0, 0}, {0, 1, 0, 0}, {0, 0, 128, 0}, {255, 255, 255, 255}} {
		checkOpened(t, b, nil, api.ErrSum)
	}
}

func TestOpenTakesTheSumOff(t *testing.T) {
	checkOpened(t, append([]byte(digits), 0xe3, 0x06, 0x92, 0x83), []byte(digits), api.OK)
	checkOpened(t, append([]byte(digits), 0x83, 0x92, 0x06, 0xe3), nil, api.ErrSum)
	checkOpened(t, append([]byte{0xe3, 0x06, 0x92, 0x83}, digits...), nil, api.ErrSum)
	checkOpened(t, []byte(digits), nil, api.ErrSum)
}

// P2.3

func TestWhatIsSealedIsOpened(t *testing.T) {
	for n := range 300 {
		sealed := Seal(sample(n))
		if len(sealed) != n+4 {
			t.Errorf("Seal of %d bytes has %d", n, len(sealed))
		}
		checkOpened(t, sealed, sample(n), api.OK)
	}
	twice := Seal(Seal([]byte(digits)))
	checkOpened(t, twice, Seal([]byte(digits)), api.OK)
}

func TestAChangedByteIsNotOpened(t *testing.T) {
	for _, n := range []int{0, 1, 9, 252} {
		sealed := Seal(sample(n))
		for at := range sealed {
			for by := 1; by < 256; by++ {
				b := slices.Clone(sealed)
				b[at] ^= byte(by)
				checkOpened(t, b, nil, api.ErrSum)
			}
		}
	}
}

func TestALostOrAddedByteIsNotOpened(t *testing.T) {
	sealed := Seal([]byte(digits))
	checkOpened(t, sealed[1:], nil, api.ErrSum)
	checkOpened(t, sealed[:len(sealed)-1], nil, api.ErrSum)
	checkOpened(t, append(slices.Clone(sealed), 0), nil, api.ErrSum)
}

// Rule 3 of the document: arguments are not changed, answers are new memory.

func TestArgumentsAreLeftAndAnswersAreNew(t *testing.T) {
	room := make([]byte, 64)
	copy(room, digits)
	b := room[:len(digits)]
	sealed := Seal(b)
	Of(b, b)
	More(7, b)
	if string(b) != digits || !bytes.Equal(room[len(digits):], make([]byte, 64-len(digits))) {
		t.Errorf("the bytes, or those behind them, were changed: % x", room)
	}
	sealed[0] = 'x'
	if string(b) != digits {
		t.Error("what Seal answers is the argument's memory")
	}

	sealed = Seal(b)
	opened, _ := Open(sealed)
	opened[0] = 'x'
	_ = append(opened, "spare"...)
	checkOpened(t, sealed, []byte(digits), api.OK)
}
