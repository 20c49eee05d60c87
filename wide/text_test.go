package wide

import (
	"math/big"
	"math/rand"
	"strings"
	"testing"

	"obscura/api"
)

// P2.2: texts of all lengths are written and read.
func TestTexts(t *testing.T) {
	list := samples(rand.New(rand.NewSource(11)))
	ten := big.NewInt(10)
	// Around the powers of 10 groups of digits begin, and zeros stand inside.
	for k := int64(0); k <= 616; k++ {
		power := new(big.Int).Exp(ten, big.NewInt(k), nil)
		list = append(list, power, new(big.Int).Sub(power, big.NewInt(1)), new(big.Int).Not(power))
	}
	for _, v := range list {
		if s, e := Text(wideOf(v)); s != v.String() || e != api.OK {
			t.Errorf("Text(%d): %s, error %d", v, s, e)
		}
		x, e := Read(v.String())
		check(t, x, e, v, "Read(%d)", v)
	}
}

// P2.2: only decimal texts are read; the examples of the chapter are among them.
func TestReadRefuses(t *testing.T) {
	long := strings.Repeat("1234567890", 62)
	for _, s := range []string{
		"", "-", "--1", "-0", "-00", "00", "012", "-012", "+1", "+0", "+", "1-", "1-2", "-1-",
		" 1", "1 ", "1\n", "1_000", "1,000", "0x10", "1e3", "1.0", "a", "/", ":", "12/", "12:",
		"\x00", "1\x00", "٣", "１", "−1", "\xff", "0" + long, "-0" + long, long + "x", "x" + long, long[:300] + "x" + long[301:], long + long + " ",
		"0000000000", "0000000001", "000000000000000000001",
	} {
		if x, e := Read(s); x != (api.Wide{}) || e != api.ErrForm {
			t.Errorf("Read(%q): %d, error %d; want ErrForm", s, exact(x), e)
		}
	}
	for n := range 256 {
		s := "1" + string([]byte{byte(n)})
		want := api.ErrForm
		if n >= '0' && n <= '9' {
			want = api.OK
		}
		if _, e := Read(s); e != want {
			t.Errorf("Read(%q): error %d; want %d", s, e, want)
		}
	}
}

// P2.2: zero and small numbers.
func TestReadSmall(t *testing.T) {
	for s, want := range map[string]int64{"0": 0, "7": 7, "-12": -12, "-1": -1, "10": 10, "999999999": 999999999, "1000000000": 1000000000, "-4294967296": -4294967296} {
		x, e := Read(s)
		check(t, x, e, big.NewInt(want), "Read(%s)", s)
		if back, e := Text(Of(want)); back != s || e != api.OK {
			t.Errorf("Text(%d): %s, error %d", want, back, e)
		}
	}
}

// P2.2: decimal texts of integers that are too great are out of range, also very long ones.
func TestReadRange(t *testing.T) {
	great := pow2(2048, 0)
	list := []*big.Int{great, pow2(2048, 1), pow2(2049, 0), pow2(2100, 0), pow2(9000, 17)}
	for _, k := range []int64{616, 617, 620, 621, 622, 630, 5000} {
		list = append(list, new(big.Int).Exp(big.NewInt(10), big.NewInt(k), nil))
	}
	for _, v := range list {
		x, e := Read(v.String())
		check(t, x, e, v, "Read(%d)", v)
		v = new(big.Int).Neg(v)
		x, e = Read(v.String())
		check(t, x, e, v, "Read(%d)", v)
	}
	if x, e := Read("1" + strings.Repeat("0", 3_000_000)); x != (api.Wide{}) || e != api.ErrRange {
		t.Errorf("Read of 3000001 digits: %d, error %d; want ErrRange", exact(x), e)
	}
}
