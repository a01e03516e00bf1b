package clock_test

import (
	"math"
	"math/big"
	"math/rand"
	"slices"
	"strings"
	"testing"
	"time"

	"stele/api"
	"stele/clock"
)

const (
	firstDay   = -719162
	lastDay    = 2932896
	daySeconds = 86400
	layout     = "20060102T150405Z"
)

// utc: the library's time of t.
func utc(t uint64) time.Time { return time.Unix(int64(t), 0).UTC() }

// eachDay goes through all days that there are, with the library's dates.
func eachDay(visit func(day, y, m, d int)) {
	at := time.Date(1, 1, 1, 0, 0, 0, 0, time.UTC)
	for day := firstDay; day <= lastDay; day++ {
		y, m, d := at.Date()
		visit(day, y, int(m), d)
		at = at.AddDate(0, 0, 1)
	}
}

// farInts: numbers at the ends of their types, and those that a narrower type
// would take for the number near.
func farInts(near int) []int {
	l := []int{math.MinInt, math.MinInt + 1, math.MinInt32, math.MaxInt32, math.MaxInt - 1, math.MaxInt}
	for _, bits := range []int{16, 32, 48} {
		l = append(l, near+1<<bits, near-1<<bits)
	}
	return l
}

// someTimes: the edges of days, months, years and of all times, and times in between.
func someTimes() []uint64 {
	l := []uint64{0, 1, 59, 60, 61, 3599, 3600, 3601, 86399, 86400, 86401, 1440938160, 1709251199, math.MaxInt32, math.MaxInt32 + 1, math.MaxUint32, math.MaxUint32 + 1, api.MaxTime - 86400, api.MaxTime - 1, api.MaxTime}
	for y := 1971; y <= 9999; y += 7 {
		for m := range 12 {
			at := uint64(time.Date(y, time.Month(m+1), 1, 0, 0, 0, 0, time.UTC).Unix())
			l = append(l, at-1, at, at+1)
		}
	}
	random := rand.New(rand.NewSource(302))
	for range 20000 {
		l = append(l, uint64(random.Int63n(api.MaxTime+1)))
	}
	return l
}

// P301

func TestCivilOfEachDay(t *testing.T) {
	eachDay(func(day, y, m, d int) {
		if gy, gm, gd := clock.Civil(day); gy != y || gm != m || gd != d {
			t.Fatalf("Civil(%d): %d, %d, %d, not %d, %d, %d", day, gy, gm, gd, y, m, d)
		}
	})
}

func TestCivilByHand(t *testing.T) {
	for _, c := range []struct{ day, y, m, d int }{
		{0, 1970, 1, 1}, {-1, 1969, 12, 31}, {1, 1970, 1, 2}, {58, 1970, 2, 28}, {59, 1970, 3, 1},
		{firstDay, 1, 1, 1}, {firstDay + 1, 1, 1, 2}, {firstDay + 364, 1, 12, 31}, {firstDay + 365, 2, 1, 1},
		{lastDay - 1, 9999, 12, 30}, {lastDay, 9999, 12, 31},
		{11016, 2000, 2, 29}, {11017, 2000, 3, 1}, {11322, 2000, 12, 31}, {11323, 2001, 1, 1},
		{19782, 2024, 2, 29}, {20088, 2024, 12, 31}, {47540, 2100, 2, 28}, {47541, 2100, 3, 1},
	} {
		if y, m, d := clock.Civil(c.day); y != c.y || m != c.m || d != c.d {
			t.Errorf("Civil(%d): %d, %d, %d, not %d, %d, %d", c.day, y, m, d, c.y, c.m, c.d)
		}
	}
}

func TestCivilOfNoDay(t *testing.T) {
	days := append(farInts(0), farInts(lastDay)...)
	days = append(days, firstDay-1, firstDay-2, firstDay-366, lastDay+1, lastDay+2, lastDay+366)
	for _, day := range days {
		if day >= firstDay && day <= lastDay {
			continue
		}
		if y, m, d := clock.Civil(day); y != 0 || m != 0 || d != 0 {
			t.Errorf("Civil(%d): %d, %d, %d of no day", day, y, m, d)
		}
	}
}

func TestDayOfEachDate(t *testing.T) {
	days := map[[3]int]int{}
	eachDay(func(day, y, m, d int) {
		if got, e := clock.Day(y, m, d); got != day || e != api.OK {
			t.Fatalf("Day(%d, %d, %d): %d, %d, not %d", y, m, d, got, e, day)
		}
		if y%100 >= 96 || y%100 <= 4 || y < 10 {
			days[[3]int{y, m, d}] = day
		}
	})
	for y := range 10000 {
		if y%100 < 96 && y%100 > 4 && y >= 10 {
			continue
		}
		for m := -1; m <= 14; m++ {
			for d := -1; d <= 33; d++ {
				day, there := days[[3]int{y, m, d}]
				got, e := clock.Day(y, m, d)
				if there != (e == api.OK) || !there && e != api.ErrTime || got != day {
					t.Fatalf("Day(%d, %d, %d): %d, %d, not %d, %v", y, m, d, got, e, day, there)
				}
			}
		}
	}
}

func TestDayByHand(t *testing.T) {
	for _, c := range []struct{ y, m, d, day int }{
		{1970, 1, 1, 0}, {1969, 12, 31, -1}, {1, 1, 1, firstDay}, {9999, 12, 31, lastDay},
		{2024, 2, 29, 19782}, {2000, 2, 29, 11016}, {2400, 2, 29, 157113}, {4, 2, 29, firstDay + 3*365 + 59},
		{1600, 2, 29, -135081}, {2023, 2, 28, 19416}, {2023, 3, 1, 19417},
	} {
		if day, e := clock.Day(c.y, c.m, c.d); day != c.day || e != api.OK {
			t.Errorf("Day(%d, %d, %d): %d, %d, not %d", c.y, c.m, c.d, day, e, c.day)
		}
	}
}

func TestDayThatThereIsNot(t *testing.T) {
	wrong := [][3]int{
		{2023, 2, 29}, {1900, 2, 29}, {2100, 2, 29}, {100, 2, 29}, {1, 2, 29}, {9999, 2, 29}, {2024, 2, 30}, {2000, 2, 30},
		{0, 1, 1}, {0, 12, 31}, {0, 2, 29}, {-1, 1, 1}, {-4, 2, 29}, {10000, 1, 1}, {10000, 2, 29},
		{2024, 0, 1}, {2024, 13, 1}, {2024, -1, 1}, {2024, 1, 0}, {2024, 1, -1}, {2024, 1, 32}, {2024, 4, 31}, {2024, 12, 32},
		{2024, 257, 1}, {2024, -255, 1}, {2024, 1, 257}, {2024, 1, -255},
		{0, 0, 0},
	}
	for _, far := range farInts(2024) {
		wrong = append(wrong, [3]int{far, 1, 1})
	}
	for _, far := range farInts(1) {
		wrong = append(wrong, [3]int{2024, far, 1}, [3]int{2024, 1, far}, [3]int{far, far, far})
	}
	for _, w := range wrong {
		if day, e := clock.Day(w[0], w[1], w[2]); day != 0 || e != api.ErrTime {
			t.Errorf("Day of %v: %d, %d, not 0, ErrTime", w, day, e)
		}
	}
}

// P302

func TestShowByHand(t *testing.T) {
	for _, c := range []struct {
		t    uint64
		want string
	}{
		{1440938160, "20150830T123600Z"}, {0, "19700101T000000Z"}, {1, "19700101T000001Z"},
		{86399, "19700101T235959Z"}, {86400, "19700102T000000Z"},
		{1709251199, "20240229T235959Z"}, {1709251200, "20240301T000000Z"},
		{api.MaxTime, "99991231T235959Z"}, {api.MaxTime - 86400, "99991230T235959Z"},
	} {
		if s, e := clock.Show(c.t); s != c.want || e != api.OK {
			t.Errorf("Show(%d): %q, %d, not %q", c.t, s, e, c.want)
		}
		if s, e := clock.Date(c.t); s != c.want[:8] || e != api.OK {
			t.Errorf("Date(%d): %q, %d, not %q", c.t, s, e, c.want[:8])
		}
		if n, e := clock.Read(c.want); n != c.t || e != api.OK {
			t.Errorf("Read(%q): %d, %d, not %d", c.want, n, e, c.t)
		}
	}
}

func TestShowAndDateOfTimes(t *testing.T) {
	for _, at := range someTimes() {
		want := utc(at).Format(layout)
		if s, e := clock.Show(at); s != want || e != api.OK {
			t.Fatalf("Show(%d): %q, %d, not %q", at, s, e, want)
		}
		if s, e := clock.Date(at); s != want[:8] || e != api.OK {
			t.Fatalf("Date(%d): %q, %d, not %q", at, s, e, want[:8])
		}
	}
}

func TestShowAndDateAboveMaxTime(t *testing.T) {
	for _, at := range []uint64{api.MaxTime + 1, api.MaxTime + 2, api.MaxTime + 86400, 1 << 38, 1 << 48, math.MaxInt64, 1 << 63, 1<<63 + 86400, math.MaxUint64 - 1, math.MaxUint64} {
		if s, e := clock.Show(at); s != "" || e != api.ErrTime {
			t.Errorf("Show(%d): %q, %d, not ErrTime", at, s, e)
		}
		if s, e := clock.Date(at); s != "" || e != api.ErrTime {
			t.Errorf("Date(%d): %q, %d, not ErrTime", at, s, e)
		}
	}
}

// checkRead: as the library reads it, if it writes it the same way.
func checkRead(t *testing.T, s string) {
	t.Helper()
	want, e := uint64(0), api.ErrTime
	at, err := time.Parse(layout, s)
	if err == nil && at.Year() >= 1970 && at.Format(layout) == s {
		want, e = uint64(at.Unix()), api.OK
	}
	if got, ge := clock.Read(s); got != want || ge != e {
		t.Errorf("Read(%q): %d, %d, not %d, %d", s, got, ge, want, e)
	}
}

func TestReadWithEachSignAnotherOne(t *testing.T) {
	for _, s := range []string{"20150830T123600Z", "20240229T235959Z", "19700101T000000Z", "99991231T235959Z", "20001109T010203Z"} {
		for at := range len(s) {
			for b := range 256 {
				checkRead(t, s[:at]+string([]byte{byte(b)})+s[at+1:])
			}
		}
	}
}

func TestReadEachNumber(t *testing.T) {
	two := func(n int) string { return string([]byte{byte('0' + n/10), byte('0' + n%10)}) }
	for _, s := range []string{"20150830T123600Z", "20240229T235959Z", "20230131T000000Z"} {
		for _, at := range []int{0, 2, 4, 6, 9, 11, 13} {
			for n := range 100 {
				checkRead(t, s[:at]+two(n)+s[at+2:])
			}
		}
	}
	for year := range 10000 {
		checkRead(t, two(year/100)+two(year%100)+"0229T000000Z")
		checkRead(t, two(year/100)+two(year%100)+"1231T235959Z")
	}
}

func TestReadWhatIsNoTime(t *testing.T) {
	for _, s := range []string{
		// days and hours that there are none of
		"20230229T000000Z", "21000229T000000Z", "20240230T000000Z", "20240431T000000Z", "20240001T000000Z", "20241301T000000Z",
		"20240100T000000Z", "20240132T000000Z", "20240101T240000Z", "20240101T236000Z", "20240101T235960Z", "20161231T235960Z", "20249999T999999Z",
		// times before 1970
		"19691231T235959Z", "19690101T000000Z", "00010101T000000Z", "00000101T000000Z", "00000000T000000Z", "19000229T000000Z",
		// texts of another length
		"", "2", "20240101", "20240101T000000", "20240101T00000Z", "2024010T000000Z", "20240101T0000000Z", "020240101T000000Z",
		"20240101T000000ZZ", "20240101T000000Z ", " 20240101T000000Z", "20240101T000000Z\n", "20240101T000000.0Z", "2024-01-01T00:00:00Z",
		"100000101T000000Z", strings.Repeat("0", 1000),
		// other signs
		"20240101t000000z", "20240101 000000Z", "20240101T000000z", "20240101T000000+", "2024010100000000", "T0240101T000000Z",
		"+2240101T000000Z", "-2240101T000000Z", "2024 101T000000Z", "20240101T 00000Z", "20240101T0x0000Z", "2024+101T000000Z", "202401-1T000000Z",
		"20240101T00\x00000Z", "20240101T0000\xb00Z", "2024010\xc4\x81T00000Z", "٢٠٢٤٠١٠١", "2024010１T000Z", "20240101Ｔ0000Z",
	} {
		if n, e := clock.Read(s); n != 0 || e != api.ErrTime {
			t.Errorf("Read(%q): %d, %d, not ErrTime", s, n, e)
		}
		checkRead(t, s)
	}
}

func FuzzRead(f *testing.F) {
	f.Add("20150830T123600Z")
	f.Add("19691231T235959Z")
	f.Add("")
	f.Fuzz(checkRead)
}

// P303

// later: as the document's words say, in numbers without an end.
func later(t uint64, days int) uint64 {
	if t > api.MaxTime {
		return t
	}
	sum := big.NewInt(int64(max(days, 0)))
	sum.Mul(sum, big.NewInt(daySeconds))
	sum.Add(sum, new(big.Int).SetUint64(t))
	if sum.Cmp(big.NewInt(api.MaxTime)) > 0 {
		return api.MaxTime
	}
	return sum.Uint64()
}

func TestLaterByHand(t *testing.T) {
	const last = api.MaxTime
	for _, c := range []struct {
		t    uint64
		days int
		want uint64
	}{
		{5, 2, 172805}, {5, 1, 86405}, {5, 0, 5}, {5, -1, 5}, {5, math.MinInt, 5}, {0, 0, 0}, {0, -2, 0},
		{0, lastDay, last - 86399}, {86399, lastDay, last}, {86400, lastDay, last}, {86398, lastDay, last - 1}, {0, lastDay + 1, last},
		{last, 0, last}, {last, 1, last}, {last, -1, last}, {last, math.MaxInt, last}, {last - 1, 1, last}, {last - 1, 0, last - 1},
		{last - 86400, 1, last}, {last - 86401, 1, last - 1}, {last - 86399, 1, last},
		{last + 1, 0, last + 1}, {last + 1, 1, last + 1}, {last + 1, -1, last + 1}, {last + 1, math.MaxInt, last + 1},
		{math.MaxUint64, 1, math.MaxUint64}, {math.MaxUint64, math.MinInt, math.MaxUint64}, {1 << 63, 7, 1 << 63},
		{5, math.MaxInt, last}, {0, math.MaxInt, last}, {0, api.MaxDays, 36500 * 86400},
		// days whose seconds, were they counted in 64 bits, would wrap round to few
		{7, 1 << 57, last}, {7, 1 << 62, last}, {7, 213503982334602, last}, {7, 106751991167301, last},
	} {
		if got := clock.Later(c.t, c.days); got != c.want {
			t.Errorf("Later(%d, %d): %d, not %d", c.t, c.days, got, c.want)
		}
	}
}

func TestLaterOfTimesAndDays(t *testing.T) {
	random := rand.New(rand.NewSource(303))
	for range 200000 {
		at, days := random.Uint64()>>random.Intn(64), int(random.Uint64()>>random.Intn(64))
		if random.Intn(2) == 0 {
			at, days = uint64(random.Int63n(api.MaxTime+1)), random.Intn(2*lastDay)
		}
		if got, want := clock.Later(at, days), later(at, days); got != want {
			t.Fatalf("Later(%d, %d): %d, not %d", at, days, got, want)
		}
	}
}

func TestNearByHand(t *testing.T) {
	const top = math.MaxUint64
	for _, c := range []struct {
		a, b, by uint64
		want     bool
	}{
		{5, 905, 900, true}, {5, 906, 900, false}, {5, 904, 900, true}, {0, 0, 0, true}, {7, 7, 0, true}, {7, 8, 0, false}, {7, 8, 1, true},
		{7, 9, 1, false}, {0, top, top, true}, {0, top, top - 1, false}, {1, top, top - 1, true}, {1, top, top - 2, false},
		{top, top, 0, true}, {top - 1, top, 0, false}, {top - 1, top, 1, true}, {top - 900, top, 900, true}, {top - 901, top, 900, false},
		{0, top, 1, false}, {0, top, 900, false}, {5, top, 900, false}, {0, 1 << 63, 1 << 63, true}, {0, 1 << 63, 1<<63 - 1, false},
	} {
		if got := clock.Near(c.a, c.b, c.by); got != c.want {
			t.Errorf("Near(%d, %d, %d): %v", c.a, c.b, c.by, got)
		}
		if got := clock.Near(c.b, c.a, c.by); got != c.want {
			t.Errorf("Near(%d, %d, %d): %v", c.b, c.a, c.by, got)
		}
	}
}

func TestNearOfNumbers(t *testing.T) {
	random := rand.New(rand.NewSource(303))
	for range 200000 {
		a, b := random.Uint64()>>random.Intn(64), random.Uint64()>>random.Intn(64)
		apart := new(big.Int).SetUint64(a)
		apart.Abs(apart.Sub(apart, new(big.Int).SetUint64(b)))
		bound := apart.Uint64()
		for _, by := range []uint64{bound - 1, bound, bound + 1, random.Uint64() >> random.Intn(64)} {
			want := apart.Cmp(new(big.Int).SetUint64(by)) <= 0
			if got := clock.Near(a, b, by); got != want {
				t.Fatalf("Near(%d, %d, %d): %v", a, b, by, got)
			}
		}
	}
}

// P304

func TestReadOfShow(t *testing.T) {
	for _, at := range someTimes() {
		s, _ := clock.Show(at)
		if back, e := clock.Read(s); back != at || e != api.OK {
			t.Fatalf("Read of Show(%d), %q: %d, %d", at, s, back, e)
		}
	}
	for at := range uint64(daySeconds) {
		s, _ := clock.Show(at + 19782*daySeconds)
		if back, e := clock.Read(s); back != at+19782*daySeconds || e != api.OK {
			t.Fatalf("Read of Show of second %d of a day, %q: %d, %d", at, s, back, e)
		}
	}
}

func TestDayOfCivilAndLaterDates(t *testing.T) {
	previous := [3]int{}
	for day := firstDay; day <= lastDay; day++ {
		y, m, d := clock.Civil(day)
		if back, e := clock.Day(y, m, d); back != day || e != api.OK {
			t.Fatalf("Day of Civil(%d): %d, %d", day, back, e)
		}
		date := [3]int{y, m, d}
		if y < previous[0] || y == previous[0] && (m < previous[1] || m == previous[1] && d <= previous[2]) {
			t.Fatalf("Civil(%d), %v, is not later than %v", day, date, previous)
		}
		previous = date
	}
}

func TestLaterDaysAreLaterTexts(t *testing.T) {
	previous := ""
	for day := range lastDay + 1 {
		date, e := clock.Date(clock.Later(43200, day))
		if e != api.OK || date <= previous {
			t.Fatalf("the date of Later of %d days, %q, %d, is not later than %q", day, date, e, previous)
		}
		previous = date
	}
	previous = ""
	times := someTimes()
	slices.Sort(times)
	for _, at := range slices.Compact(times) {
		s, _ := clock.Show(at)
		if s <= previous {
			t.Fatalf("Show(%d), %q, is not later than %q", at, s, previous)
		}
		previous = s
	}
}
