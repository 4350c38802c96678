package digest

import (
	"fmt"
	"hash/fnv"
	"math"
	"math/big"
	"strings"
	"testing"

	"identity/api"
)

// modelSum is the definition of the digest, calculated with integers of any size.
func modelSum(s string) uint64 {
	wrap := new(big.Int).Lsh(big.NewInt(1), 64)
	h, _ := new(big.Int).SetString("14695981039346656037", 10)
	times := func(f *big.Int) { h.Mod(h.Mul(h, f), wrap) }
	fold := func() { h.Xor(h, new(big.Int).Rsh(h, 33)) }
	for _, c := range []byte(s) {
		h.Xor(h, big.NewInt(int64(c)))
		times(big.NewInt(1099511628211))
	}
	for _, f := range []string{"ff51afd7ed558ccd", "c4ceb9fe1a85ec53"} {
		fold()
		n, _ := new(big.Int).SetString(f, 16)
		times(n)
	}
	fold()
	return h.Uint64()
}

// samples are strings of all kinds.
func samples() []string {
	all := []string{"", "a", "b", "abc", "foobar", "a|b", "k", "\x00", "\x00\x00", "\xff\x00", "é", strings.Repeat("x", 5000)}
	for c := range 256 {
		all = append(all, string([]byte{byte(c)}), string([]byte{'q', byte(c), 'q'}))
	}
	return all
}

// P3.1
func TestSum(t *testing.T) {
	for s, want := range map[string]uint64{
		"":         0xefd01f60ba992926,
		"a":        0x82a2a958a9bece5b,
		"b":        0x6e673288764ad2d0,
		"abc":      0x33ebaf9927cbc5bd,
		"foobar":   0x2c22194922d1672b,
		"\xff\x00": 0x6697e69689e5177a,
	} {
		if got := Sum(s); got != want {
			t.Errorf("Sum(%q) = %x, not %x", s, got, want)
		}
	}
	for _, s := range samples() {
		if got, want := Sum(s), modelSum(s); got != want {
			t.Errorf("Sum(%q) = %x, not %x", s, got, want)
		}
	}
}

// P3.1: before it is mixed, the digest is the one of hash/fnv.
func TestSumIsMixed(t *testing.T) {
	for _, s := range samples() {
		h := fnv.New64a()
		h.Write([]byte(s))
		if got, want := Sum(s), mix(h.Sum64()); got != want {
			t.Errorf("Sum(%q) = %x, not %x", s, got, want)
		}
	}
}

// numbers are numbers with digits of all kinds.
func numbers() []uint64 {
	all := []uint64{0, 1, 9, 10, 15, 16, 255, 0x0123456789abcdef, 0xfedcba9876543210, 1 << 63, math.MaxUint64, math.MaxInt64}
	for i := range 64 {
		all = append(all, 1<<i, 1<<i-1, modelSum(strings.Repeat("n", i)))
	}
	return all
}

// P3.1
func TestHex(t *testing.T) {
	for n, want := range map[uint64]string{
		0:                  "0000000000000000",
		255:                "00000000000000ff",
		0x0123456789abcdef: "0123456789abcdef",
		math.MaxUint64:     "ffffffffffffffff",
	} {
		if got := Hex(n); got != want {
			t.Errorf("Hex(%d) = %q, not %q", n, got, want)
		}
	}
	for _, n := range numbers() {
		if got, want := Hex(n), fmt.Sprintf("%016x", n); got != want {
			t.Errorf("Hex(%d) = %q, not %q", n, got, want)
		}
	}
}

// P3.1
func TestText(t *testing.T) {
	if got := Text("abc"); got != "33ebaf9927cbc5bd" {
		t.Errorf("Text(abc) = %q", got)
	}
	for _, s := range samples() {
		if got, want := Text(s), fmt.Sprintf("%016x", modelSum(s)); got != want {
			t.Errorf("Text(%q) = %q, not %q", s, got, want)
		}
	}
}

// P3.2
func TestReadHex(t *testing.T) {
	for s, want := range map[string]uint64{
		"0000000000000000": 0,
		"00000000000000ff": 255,
		"0123456789abcdef": 0x0123456789abcdef,
		"ffffffffffffffff": math.MaxUint64,
	} {
		if got, e := ReadHex(s); got != want || e != api.OK {
			t.Errorf("ReadHex(%q) = %d, %d", s, got, int(e))
		}
	}
}

// P3.2
func TestReadHexErrors(t *testing.T) {
	for _, s := range []string{
		"", "0", "FF", "ff", "00000000000000FF", "000000000000000F", "0x000000000000ff",
		"000000000000000", "00000000000000000", "0ffffffffffffffff", "ffffffffffffffff0",
		" 000000000000000", "000000000000000 ", "+000000000000001", "-000000000000001",
		"000000000000_001", "0000000é0000000", "00000000000000é", "\x00000000000000000",
	} {
		if got, e := ReadHex(s); got != 0 || e != api.ErrForm {
			t.Errorf("ReadHex(%q) = %d, %d", s, got, int(e))
		}
	}
	for c := range 256 {
		for at := range 16 {
			b := []byte("1234567890abcdef")
			b[at] = byte(c)
			want := api.ErrForm
			if strings.ContainsRune("0123456789abcdef", rune(c)) {
				want = api.OK
			}
			if got, e := ReadHex(string(b)); e != want || e != api.OK && got != 0 {
				t.Errorf("ReadHex(%q) = %d, %d", b, got, int(e))
			}
		}
	}
}

// P3.3
func TestMac(t *testing.T) {
	for _, x := range []struct{ key, s, want string }{
		{"k", "m", "b9449c8fdbe0b5e6"},
		{"", "", "516c8088a18f2cd2"},
		{"ab", "c", "2d1d06573079b8f1"},
		{"abcdefghijkl", "m", "16a89c25d91725db"},
	} {
		if got := Mac(x.key, x.s); got != x.want {
			t.Errorf("Mac(%q, %q) = %q, not %q", x.key, x.s, got, x.want)
		}
	}
	for _, key := range samples() {
		p := fmt.Sprintf("%d:%s", len(key), key)
		if got, want := Mac(key, "text"), Text(p+Text(p+"text")); got != want {
			t.Errorf("Mac(%q, text) = %q, not %q", key, got, want)
		}
	}
	if Mac("ab", "c") == Mac("a", "bc") || Mac("", "abc") == Mac("a", "bc") {
		t.Error("Mac does not tell the key from the string")
	}
}

// P3.3
func TestIterate(t *testing.T) {
	for rounds, want := range map[int]string{
		math.MinInt: "bc45faf7eb94d75e",
		-1:          "bc45faf7eb94d75e",
		0:           "bc45faf7eb94d75e",
		1:           "c4243cca7594e402",
		2:           "d8f6f9e931beb519",
		63:          "84ba7345725e3386",
		64:          "c90ed61cb852f8f9",
		65:          "c90ed61cb852f8f9",
		math.MaxInt: "c90ed61cb852f8f9",
	} {
		if got := Iterate("s", "p", rounds); got != want {
			t.Errorf("Iterate(s, p, %d) = %q, not %q", rounds, got, want)
		}
	}
	h := Text("salt|")
	for rounds := range api.MaxRounds + 1 {
		if got := Iterate("salt", "", rounds); got != h {
			t.Errorf("Iterate(salt, , %d) = %q, not %q", rounds, got, h)
		}
		h = Text(h + "|salt")
	}
}

// P3.3
func TestChain(t *testing.T) {
	for _, x := range []struct{ prev, s, want string }{
		{"a", "b", "d6ec624bc6a0e9fd"},
		{"", "", "080e795202020c51"},
	} {
		if got := Chain(x.prev, x.s); got != x.want {
			t.Errorf("Chain(%q, %q) = %q, not %q", x.prev, x.s, got, x.want)
		}
	}
	for _, s := range samples() {
		if Chain(s, "x") != Text(s+"|x") || Chain("x", s) != Text("x|"+s) {
			t.Errorf("Chain of %q", s)
		}
	}
}

// P3.6
func TestReadHexInvertsHex(t *testing.T) {
	for _, n := range numbers() {
		if got, e := ReadHex(Hex(n)); got != n || e != api.OK {
			t.Errorf("ReadHex(Hex(%d)) = %d, %d", n, got, int(e))
		}
	}
	for _, s := range samples() {
		if got, e := ReadHex(Text(s)); got != Sum(s) || e != api.OK {
			t.Errorf("ReadHex(Text(%q)) = %d, %d", s, got, int(e))
		}
	}
}

// P3.9
func TestOneByte(t *testing.T) {
	for _, s := range []string{"a", "ab", "abcdefgh", "abcdefghijklmnopqrstuvwxyz", strings.Repeat("\x00", 40)} {
		for at := range len(s) {
			seen := map[uint64]byte{}
			for c := range 256 {
				b := []byte(s)
				b[at] = byte(c)
				n := Sum(string(b))
				if d, ok := seen[n]; ok {
					t.Errorf("%q with %d and with %d at %d have the same digest", s, c, d, at)
				}
				seen[n] = byte(c)
			}
		}
	}
}

// P3.9: no step of the digest joins two numbers, since each factor is odd.
func TestFactorsAreOdd(t *testing.T) {
	for _, f := range []uint64{factor, mixFirst, mixSecond} {
		if f%2 == 0 {
			t.Errorf("%d is even", f)
		}
	}
}
