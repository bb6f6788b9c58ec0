package tests

import (
	"math"
	"regexp"
	"slices"
	"strconv"
	"strings"
	"testing"
	"time"

	"loop.example/mailwire/impl"
)

// dateLayout is the form of FormatDate, as the package time writes it.
const dateLayout = "Mon, 2 Jan 2006 15:04:05 -0700"

// date returns a date of a day, a time and a zone.
func date(year, month, day, hour, minute, second, zone int) impl.Date {
	return impl.Date{Year: year, Month: month, Day: day, Hour: hour, Minute: minute, Second: second, Zone: zone}
}

// timeOf returns a date as the package time has it.
func timeOf(d impl.Date) time.Time {
	zone := time.FixedZone("", d.Zone*60)
	return time.Date(d.Year, time.Month(d.Month), d.Day, d.Hour, d.Minute, d.Second, 0, zone)
}

// dateOf returns what the package time shows in a zone.
func dateOf(seconds int, zone int) impl.Date {
	t := time.Unix(int64(seconds), 0).In(time.FixedZone("", zone*60))
	return date(t.Year(), int(t.Month()), t.Day(), t.Hour(), t.Minute(), t.Second(), zone)
}

// validByTime is another way to tell which dates are valid: the package time
// brings those that no calendar and clock show into another form.
func validByTime(d impl.Date) bool {
	t := timeOf(d)
	return d == dateOf(int(t.Unix()), d.Zone) && d.Year >= 1970 && d.Year <= 2099 &&
		d.Zone >= -720 && d.Zone <= 840 && t.Unix() >= 0 && t.Unix() < 4102444800
}

// expectDate holds a valid date against all that tells of it.
func expectDate(t *testing.T, d impl.Date, seconds int, text string) {
	t.Helper()
	if !impl.DateValid(d) {
		t.Errorf("DateValid(%v) = false", d)
	}
	if got, ok := impl.SecondsOf(d); !ok || got != seconds {
		t.Errorf("SecondsOf(%v) = %d, %v, want %d", d, got, ok, seconds)
	}
	if got, ok := impl.DateOf(seconds, d.Zone); !ok || got != d {
		t.Errorf("DateOf(%d, %d) = %v, %v, want %v", seconds, d.Zone, got, ok, d)
	}
	if got := impl.WeekdayOf(d); got != text[:3] {
		t.Errorf("WeekdayOf(%v) = %q, want %q", d, got, text[:3])
	}
	if got := impl.FormatDate(d); got != text {
		t.Errorf("FormatDate(%v) = %q, want %q", d, got, text)
	}
	expectParsed(t, text, d)
	if got, ok := impl.InZone(d, d.Zone); !ok || got != d {
		t.Errorf("InZone(%v, %d) = %v, %v", d, d.Zone, got, ok)
	}
}

// expectNoDate holds a date that is not valid against all that tells of it.
func expectNoDate(t *testing.T, d impl.Date) {
	t.Helper()
	if impl.DateValid(d) {
		t.Errorf("DateValid(%v) = true", d)
	}
	if got, ok := impl.SecondsOf(d); ok || got != 0 {
		t.Errorf("SecondsOf(%v) = %d, %v", d, got, ok)
	}
	if got := impl.WeekdayOf(d); got != "" {
		t.Errorf("WeekdayOf(%v) = %q", d, got)
	}
	if got := impl.FormatDate(d); got != "" {
		t.Errorf("FormatDate(%v) = %q", d, got)
	}
	for _, zone := range []int{0, 60, -60, 840, -720, d.Zone, 841} {
		expectNotInZone(t, d, zone)
	}
}

func expectNotInZone(t *testing.T, d impl.Date, zone int) {
	t.Helper()
	if got, ok := impl.InZone(d, zone); ok || got != (impl.Date{}) {
		t.Errorf("InZone(%v, %d) = %v, %v, want none", d, zone, got, ok)
	}
}

func expectNoDateOf(t *testing.T, seconds int, zone int) {
	t.Helper()
	if got, ok := impl.DateOf(seconds, zone); ok || got != (impl.Date{}) {
		t.Errorf("DateOf(%d, %d) = %v, %v, want none", seconds, zone, got, ok)
	}
}

func expectParsed(t *testing.T, s string, want impl.Date) {
	t.Helper()
	if got, ok := impl.ParseDate(s); !ok || got != want {
		t.Errorf("ParseDate(%q) = %v, %v, want %v", s, got, ok, want)
	}
}

func expectNotParsed(t *testing.T, s string) {
	t.Helper()
	if got, ok := impl.ParseDate(s); ok || got != (impl.Date{}) {
		t.Errorf("ParseDate(%q) = %v, %v, want none", s, got, ok)
	}
}

// dateForm is what ParseDate reads, beside the values that a date has.
var dateForm = regexp.MustCompile(`^(?: *([A-Za-z]{3}) *,)? *([0-9]{1,2}) +([A-Za-z]{3}) +([0-9]{4}) +([0-9]{2}):([0-9]{2})(?::([0-9]{2}))? +(?:GMT|UT|([+-])([0-9]{2})([0-5][0-9])) *$`)

// parseByForm is another way to read a date.
func parseByForm(s string) (impl.Date, bool) {
	m := dateForm.FindStringSubmatch(s)
	if m == nil || len(s) > 200 {
		return impl.Date{}, false
	}
	number := func(s string) int {
		n, _ := strconv.Atoi(s)
		return n
	}
	month := strings.Index("janfebmaraprmayjunjulaugsepoctnovdec", strings.ToLower(m[3]))
	if month < 0 || month%3 != 0 {
		return impl.Date{}, false
	}
	zone := number(m[8] + strconv.Itoa(number(m[9])*60+number(m[10])))
	d := date(number(m[4]), month/3+1, number(m[2]), number(m[5]), number(m[6]), number(m[7]), zone)
	if !validByTime(d) || m[1] != "" && !strings.EqualFold(m[1], timeOf(d).Format("Mon")) {
		return impl.Date{}, false
	}
	return d, true
}

func expectAsByForm(t *testing.T, s string) {
	t.Helper()
	if want, ok := parseByForm(s); ok {
		expectParsed(t, s, want)
	} else {
		expectNotParsed(t, s)
	}
}

func TestLimitsOfDates(t *testing.T) {
	if impl.MaxSeconds != 4102444800 {
		t.Errorf("MaxSeconds = %d", impl.MaxSeconds)
	}
}

func TestDates(t *testing.T) {
	expectDate(t, date(2026, 1, 5, 7, 8, 9, 60), 1767593289, "Mon, 5 Jan 2026 07:08:09 +0100")
	expectDate(t, date(2026, 1, 4, 22, 8, 9, -480), 1767593289, "Sun, 4 Jan 2026 22:08:09 -0800")
	expectDate(t, date(1970, 1, 1, 0, 0, 0, 0), 0, "Thu, 1 Jan 1970 00:00:00 +0000")
	expectDate(t, date(1970, 1, 1, 0, 0, 1, 0), 1, "Thu, 1 Jan 1970 00:00:01 +0000")
	expectDate(t, date(1970, 1, 1, 0, 1, 0, 0), 60, "Thu, 1 Jan 1970 00:01:00 +0000")
	expectDate(t, date(1970, 1, 1, 1, 0, 0, 0), 3600, "Thu, 1 Jan 1970 01:00:00 +0000")
	expectDate(t, date(1970, 1, 2, 0, 0, 0, 0), 86400, "Fri, 2 Jan 1970 00:00:00 +0000")
	expectDate(t, date(1970, 2, 1, 0, 0, 0, 0), 31*86400, "Sun, 1 Feb 1970 00:00:00 +0000")
	expectDate(t, date(1971, 1, 1, 0, 0, 0, 0), 365*86400, "Fri, 1 Jan 1971 00:00:00 +0000")
	expectDate(t, date(2000, 1, 1, 0, 0, 0, 0), 946684800, "Sat, 1 Jan 2000 00:00:00 +0000")
	expectDate(t, date(2001, 9, 9, 1, 46, 40, 0), 1000000000, "Sun, 9 Sep 2001 01:46:40 +0000")
	expectDate(t, date(2099, 12, 31, 23, 59, 59, 0), 4102444799, "Thu, 31 Dec 2099 23:59:59 +0000")
}

func TestDaysOf(t *testing.T) {
	for year := 1600; year <= 2410; year++ {
		for month := -3; month <= 15; month++ {
			want := 0
			if year >= 1970 && year <= 2099 && month >= 1 && month <= 12 {
				want = time.Date(year, time.Month(month)+1, 0, 0, 0, 0, 0, time.UTC).Day()
			}
			if got := impl.DaysOf(year, month); got != want {
				t.Errorf("DaysOf(%d, %d) = %d, want %d", year, month, got, want)
			}
		}
	}
	for _, n := range []int{math.MinInt, -2000, -1, 0, 13, 26, 100, 1969, 2100, math.MaxInt} {
		if impl.DaysOf(n, 1) != 0 || impl.DaysOf(n, 2) != 0 || impl.DaysOf(2000, n) != 0 || impl.DaysOf(n, n) != 0 {
			t.Errorf("DaysOf of %d is not 0", n)
		}
	}
}

func TestEveryDay(t *testing.T) {
	for day := range 4102444800 / 86400 {
		seconds := day*86400 + day*7919%86400
		for _, zone := range []int{0, day%1561 - 720} {
			d := dateOf(seconds, zone)
			if validByTime(d) {
				expectDate(t, d, seconds, timeOf(d).Format(dateLayout))
			} else {
				expectNoDate(t, d)
				expectNoDateOf(t, seconds, zone)
			}
		}
	}
}

func TestEverySecondOfADay(t *testing.T) {
	for _, zone := range []int{0, 60, -61} {
		first, _ := impl.SecondsOf(date(2024, 2, 29, 0, 0, 0, zone))
		for second := range 86400 {
			d := date(2024, 2, 29, second/3600, second/60%60, second%60, zone)
			if got, ok := impl.SecondsOf(d); !ok || got != first+second {
				t.Errorf("SecondsOf(%v) = %d, %v, want %d", d, got, ok, first+second)
			}
			if got, ok := impl.DateOf(first+second, zone); !ok || got != d {
				t.Errorf("DateOf(%d, %d) = %v, %v, want %v", first+second, zone, got, ok, d)
			}
		}
	}
}

func TestTheEndOfFebruary(t *testing.T) {
	for year := 1970; year <= 2099; year++ {
		leap := slices.Contains([]int{
			1972, 1976, 1980, 1984, 1988, 1992, 1996, 2000, 2004, 2008, 2012, 2016, 2020, 2024, 2028, 2032,
			2036, 2040, 2044, 2048, 2052, 2056, 2060, 2064, 2068, 2072, 2076, 2080, 2084, 2088, 2092, 2096,
		}, year)
		last := date(year, 2, 29, 12, 0, 0, 0)
		text := "29 Feb " + strconv.Itoa(year) + " 12:00 GMT"
		if !leap {
			expectNoDate(t, last)
			expectNotParsed(t, text)
			last.Day = 28
		} else {
			expectParsed(t, text, last)
		}
		seconds, ok := impl.SecondsOf(last)
		if !ok {
			t.Errorf("SecondsOf(%v) = false", last)
		}
		if next, ok := impl.DateOf(seconds+86400, 0); !ok || next != date(year, 3, 1, 12, 0, 0, 0) {
			t.Errorf("the day after %v is %v, %v", last, next, ok)
		}
		expectNoDate(t, date(year, 2, 30, 12, 0, 0, 0))
	}
	expectDate(t, date(2000, 2, 29, 0, 0, 0, 0), 951782400, "Tue, 29 Feb 2000 00:00:00 +0000")
	expectDate(t, date(2024, 2, 29, 23, 59, 59, -30), 1709252999, "Thu, 29 Feb 2024 23:59:59 -0030")
	expectDate(t, date(2024, 12, 31, 0, 0, 0, 0), 1735603200, "Tue, 31 Dec 2024 00:00:00 +0000")
	// A zone may show the 29th where Greenwich has the 28th or the 1st.
	expectZones(t, date(2024, 2, 28, 23, 30, 0, 0), 60, date(2024, 2, 29, 0, 30, 0, 60))
	expectZones(t, date(2024, 3, 1, 0, 30, 0, 0), -60, date(2024, 2, 29, 23, 30, 0, -60))
	expectZones(t, date(2023, 2, 28, 23, 30, 0, 0), 60, date(2023, 3, 1, 0, 30, 0, 60))
}

// The values of a date at, one below and one above its limits.
func TestLimitsOfEachValue(t *testing.T) {
	set := []func(d *impl.Date, n int){
		func(d *impl.Date, n int) { d.Year = n },
		func(d *impl.Date, n int) { d.Month = n },
		func(d *impl.Date, n int) { d.Day = n },
		func(d *impl.Date, n int) { d.Hour = n },
		func(d *impl.Date, n int) { d.Minute = n },
		func(d *impl.Date, n int) { d.Second = n },
		func(d *impl.Date, n int) { d.Zone = n },
	}
	limits := [][2]int{{1970, 2099}, {1, 12}, {1, 31}, {0, 23}, {0, 59}, {0, 59}, {-720, 840}}
	for i, limit := range limits {
		for _, n := range []int{
			limit[0] - 1, limit[0], limit[0] + 1, limit[1] - 1, limit[1], limit[1] + 1,
			0, -1, 99, math.MinInt, math.MinInt + 1, math.MaxInt - 1, math.MaxInt, math.MaxInt32, math.MaxInt / 60,
		} {
			d := date(2026, 7, 15, 12, 30, 30, 0)
			set[i](&d, n)
			if n < limit[0] || n > limit[1] {
				expectNoDate(t, d)
				continue
			}
			m := timeOf(d)
			expectDate(t, d, int(m.Unix()), m.Format(dateLayout))
		}
	}
	for month := 1; month <= 12; month++ {
		days := []int{31, 28, 31, 30, 31, 30, 31, 31, 30, 31, 30, 31}[month-1]
		for _, day := range []int{1, days - 1, days} {
			d := date(2027, month, day, 1, 2, 3, 4)
			expectDate(t, d, int(timeOf(d).Unix()), timeOf(d).Format(dateLayout))
		}
		expectNoDate(t, date(2027, month, 0, 1, 2, 3, 4))
		expectNoDate(t, date(2027, month, days+1, 1, 2, 3, 4))
	}
	expectNoDate(t, impl.Date{})
}

// Values that are one too many are not carried over to the next ones.
func TestDatesThatNoClockShows(t *testing.T) {
	for _, d := range []impl.Date{
		date(2026, 12, 31, 24, 0, 0, 0), date(2026, 1, 5, 23, 60, 0, 0), date(2026, 1, 5, 23, 59, 60, 0), date(2026, 13, 1, 0, 0, 0, 0),
		date(2026, 0, 31, 0, 0, 0, 0), date(2026, 4, 31, 0, 0, 0, 0), date(2026, 1, 5, 7, -1, 60, 0), date(2026, 1, 5, -1, 60, 0, 0),
		date(2026, 1, 5, 7, 8, -1, 0), date(1970, 1, 0, 24, 0, 0, 0), date(26, 1, 5, 7, 8, 9, 0), date(-2026, 1, 5, 7, 8, 9, 0),
		date(2026, -1, 5, 7, 8, 9, 0), date(2026, 1, -5, 7, 8, 9, 0), date(2099, 12, 31, 23, 59, 60, 0), date(1969, 12, 31, 23, 59, 59, 0), date(2100, 1, 1, 0, 0, 0, 0),
	} {
		expectNoDate(t, d)
	}
}

// All combinations of values near the limits, held against the package time.
func TestCombinedLimits(t *testing.T) {
	for _, year := range []int{1969, 1970, 2000, 2023, 2099, 2100} {
		for _, month := range []int{0, 1, 2, 12, 13} {
			for _, day := range []int{0, 1, 28, 29, 30, 31, 32} {
				for _, hour := range []int{-1, 0, 10, 13, 23, 24} {
					for _, minute := range []int{-1, 0, 59, 60} {
						for _, second := range []int{-1, 0, 59, 60} {
							for _, zone := range []int{-721, -720, -30, 0, 59, 840, 841} {
								d := date(year, month, day, hour, minute, second, zone)
								if got := impl.DateValid(d); got != validByTime(d) {
									t.Errorf("DateValid(%v) = %v", d, got)
								}
							}
						}
					}
				}
			}
		}
	}
}

// The seconds at, one below and one above their limits, in every zone.
func TestLimitsOfSeconds(t *testing.T) {
	for zone := -725; zone <= 845; zone++ {
		for _, seconds := range []int{
			-1, 0, 1, 4102444798, 4102444799, 4102444800, 4102444801,
			-zone*60 - 1, -zone * 60, -zone*60 + 1, 4102444799 - zone*60, 4102444800 - zone*60, 4102444801 - zone*60,
		} {
			d := dateOf(seconds, zone)
			if validByTime(d) {
				expectDate(t, d, seconds, timeOf(d).Format(dateLayout))
			} else {
				expectNoDate(t, d)
				expectNoDateOf(t, seconds, zone)
			}
		}
	}
	ends := []int{math.MinInt, math.MinInt + 1, math.MinInt / 60, -4102444800, math.MaxInt / 60, math.MaxInt - 1, math.MaxInt}
	for _, n := range ends {
		for _, other := range append(ends, 0, 60, -720, 840, 1767593289) {
			expectNoDateOf(t, n, other)
			expectNoDateOf(t, other, n)
		}
	}
}

func TestEndsOfTimeInZones(t *testing.T) {
	expectDate(t, date(1970, 1, 1, 14, 0, 0, 840), 0, "Thu, 1 Jan 1970 14:00:00 +1400")
	expectNoDate(t, date(1970, 1, 1, 13, 59, 59, 840))
	expectDate(t, date(1970, 1, 1, 0, 0, 0, -720), 43200, "Thu, 1 Jan 1970 00:00:00 -1200")
	expectDate(t, date(1970, 1, 1, 0, 0, 0, -1), 60, "Thu, 1 Jan 1970 00:00:00 -0001")
	expectNoDate(t, date(1970, 1, 1, 0, 0, 59, 1))
	expectDate(t, date(2099, 12, 31, 11, 59, 59, -720), 4102444799, "Thu, 31 Dec 2099 11:59:59 -1200")
	expectNoDate(t, date(2099, 12, 31, 12, 0, 0, -720))
	expectDate(t, date(2099, 12, 31, 23, 59, 59, 840), 4102394399, "Thu, 31 Dec 2099 23:59:59 +1400")
	expectNoDate(t, date(2099, 12, 31, 23, 59, 0, -1))
	expectNotParsed(t, "1 Jan 1970 13:59:59 +1400")
	expectNotParsed(t, "31 Dec 2099 12:00:00 -1200")
	expectParsed(t, "1 Jan 1970 14:00 +1400", date(1970, 1, 1, 14, 0, 0, 840))
	expectNoDateOf(t, 0, -1)
	expectNoDateOf(t, 59, -1)
	expectNoDateOf(t, 4102444799, 1)
	expectNoDateOf(t, 4102444740, 1)
	expectNoDateOf(t, 43199, -720)
	expectNoDateOf(t, 4102444800-50400, 840)
}

// expectZones holds a date against the same time in another zone, both ways.
func expectZones(t *testing.T, d impl.Date, zone int, want impl.Date) {
	t.Helper()
	if got, ok := impl.InZone(d, zone); !ok || got != want {
		t.Errorf("InZone(%v, %d) = %v, %v, want %v", d, zone, got, ok, want)
	}
	if got, ok := impl.InZone(want, d.Zone); !ok || got != d {
		t.Errorf("InZone(%v, %d) = %v, %v, want %v", want, d.Zone, got, ok, d)
	}
}

func TestInZone(t *testing.T) {
	d := date(2026, 1, 5, 7, 8, 9, 60)
	expectZones(t, d, 0, date(2026, 1, 5, 6, 8, 9, 0))
	expectZones(t, d, -480, date(2026, 1, 4, 22, 8, 9, -480))
	expectZones(t, d, 840, date(2026, 1, 5, 20, 8, 9, 840))
	expectZones(t, d, -720, date(2026, 1, 4, 18, 8, 9, -720))
	expectZones(t, d, -31, date(2026, 1, 5, 5, 37, 9, -31))
	expectZones(t, date(2025, 12, 31, 23, 0, 0, 0), 61, date(2026, 1, 1, 0, 1, 0, 61))
	expectZones(t, date(1970, 1, 1, 0, 0, 0, 0), 840, date(1970, 1, 1, 14, 0, 0, 840))
	expectZones(t, date(2099, 12, 31, 23, 59, 59, 0), -720, date(2099, 12, 31, 11, 59, 59, -720))
	for _, zone := range []int{-721, 841, 900, math.MinInt, math.MaxInt} {
		expectNotInZone(t, d, zone)
	}
	expectNotInZone(t, date(1970, 1, 1, 0, 0, 0, 0), -1)
	expectNotInZone(t, date(2099, 12, 31, 23, 59, 59, 0), 1)
	// The time is valid, but not in the zone in which it is given.
	expectNotInZone(t, date(2026, 1, 5, 7, 8, 9, 841), 0)
	expectNotInZone(t, date(2026, 1, 5, 7, 8, 9, -721), 0)
	expectNotInZone(t, date(2026, 1, 5, 6, 68, 9, 0), 60)
	expectNotInZone(t, impl.Date{}, 0)
}

func TestEveryZone(t *testing.T) {
	for zone := -722; zone <= 842; zone++ {
		want := date(2026, 1, 5, 7, 8, 9, zone)
		sign, minutes := "+", zone
		if zone < 0 {
			sign, minutes = "-", -zone
		}
		digits := strconv.Itoa(10000 + minutes/60*100 + minutes%60)[1:]
		text := "Mon, 5 Jan 2026 07:08:09 " + sign + digits
		if zone < -720 || zone > 840 {
			expectNoDate(t, want)
			expectNotParsed(t, text)
			continue
		}
		expectDate(t, want, 1767596889-zone*60, text)
	}
}

func TestZonesOfAText(t *testing.T) {
	for text, zone := range map[string]int{
		"GMT": 0, "UT": 0, "+0000": 0, "-0000": 0, "+0001": 1, "-0001": -1, "+0059": 59, "-0059": -59, "-0030": -30, "+0100": 60, "+0101": 61,
		"-0101": -61, "+0545": 345, "-0331": -211, "+1345": 825, "+1359": 839, "+1400": 840, "-1159": -719, "-1200": -720,
	} {
		expectParsed(t, "Mon, 5 Jan 2026 07:08:09 "+text, date(2026, 1, 5, 7, 8, 9, zone))
	}
	for _, text := range []string{
		"", "gmt", "Gmt", "ut", "Ut", "uT", "UTC", "Z", "EST", "GMT0", "GMT+1", "GMT +0100", "+GMT", "0", "0100", "00100", "100", "+100", "+1", "+", "-",
		"+00100", "+01000", "+01:00", "+-100", "--100", "++0100", "+ 0100", "+0060", "-0060", "+0099", "+0160", "+0199", "+1360", "+1401", "+1500", "+9959", "+9999",
		"-1201", "-1300", "-9999", "+010a", "+a100", "+0x10", "+01.0", "+1e10", "*0100", ",0100", "+0100 GMT", "+0100 +0100", "+0100 (CET)", "+\u0661100",
	} {
		expectNotParsed(t, "Mon, 5 Jan 2026 07:08:09 "+text)
		expectNotParsed(t, "5 Jan 2026 07:08 "+text)
	}
	for n := range 10000 {
		digits := strconv.Itoa(10000 + n)[1:]
		expectAsByForm(t, "5 Jan 2026 07:08 +"+digits)
		expectAsByForm(t, "5 Jan 2026 07:08 -"+digits)
	}
}

func TestWeekdaysOfAText(t *testing.T) {
	want := date(2026, 1, 5, 7, 8, 9, 60)
	text := "5 Jan 2026 07:08:09 +0100"
	expectParsed(t, text, want)
	for _, day := range []string{"Mon", "mon", "MON", "mOn", " Mon", "Mon ", "   mON   "} {
		expectParsed(t, day+", "+text, want)
		expectParsed(t, day+","+text, want)
		expectParsed(t, day+",    "+text, want)
		expectNotParsed(t, day+" "+text)
		expectNotParsed(t, day+",, "+text)
		expectNotParsed(t, day+", "+day+", "+text)
		expectNotParsed(t, day+", "+text+",")
		expectNotParsed(t, text+", "+day)
	}
	for _, day := range []string{
		"Tue", "Wed", "Thu", "Fri", "Sat", "Sun", "tue", "SUN", "", " ", "   ", "M", "Mo", "Mond", "Monday", "M on", "Mon.", `"Mon"`, "Mon Mon", "1", "0", "Jan", "\tMon", "Mon\t", "\u039con",
	} {
		expectNotParsed(t, day+", "+text)
		expectNotParsed(t, day+","+text)
	}
	for i, day := range []string{"Thu", "Fri", "Sat", "Sun", "Mon", "Tue", "Wed"} {
		for n := range 31 {
			s := day + ", " + strconv.Itoa(n+1) + " Jan 1970 12:00 GMT"
			if n%7 == i {
				expectParsed(t, s, date(1970, 1, n+1, 12, 0, 0, 0))
			} else {
				expectNotParsed(t, s)
			}
		}
	}
	// It is the day that the zone shows, not the one of Greenwich.
	expectParsed(t, "Mon, 5 Jan 2026 00:30 +0100", date(2026, 1, 5, 0, 30, 0, 60))
	expectNotParsed(t, "Sun, 5 Jan 2026 00:30 +0100")
	expectParsed(t, "Mon, 5 Jan 2026 23:30 -0100", date(2026, 1, 5, 23, 30, 0, -60))
	expectNotParsed(t, "Tue, 5 Jan 2026 23:30 -0100")
}

func TestMonthsOfAText(t *testing.T) {
	for i, month := range []string{"Jan", "Feb", "Mar", "Apr", "May", "Jun", "Jul", "Aug", "Sep", "Oct", "Nov", "Dec"} {
		want := date(2026, i+1, 9, 10, 11, 12, 0)
		for _, s := range []string{month, strings.ToLower(month), strings.ToUpper(month), strings.ToLower(month[:1]) + strings.ToUpper(month[1:])} {
			expectParsed(t, "9 "+s+" 2026 10:11:12 GMT", want)
		}
		for _, s := range []string{month[:2], month + ".", month + "x", "x" + month, month[:1] + " " + month[1:], strconv.Itoa(i + 1), "0" + strconv.Itoa(i+1)} {
			expectNotParsed(t, "9 "+s+" 2026 10:11:12 GMT")
		}
		if got := impl.FormatDate(want); got[5:] != "9 "+month+" 2026 10:11:12 +0000" {
			t.Errorf("FormatDate(%v) = %q", want, got)
		}
	}
	for _, s := range []string{"", "Mai", "Sept", "January", "june", "XXX", "Mon", "anf", "JanFeb", "0", "1", "-1", "Mar\u00e7"} {
		expectNotParsed(t, "9 "+s+" 2026 10:11:12 GMT")
	}
}

func TestDigitsOfAText(t *testing.T) {
	expectParsed(t, "5 Jan 2026 07:08 GMT", date(2026, 1, 5, 7, 8, 0, 0))
	expectParsed(t, "05 Jan 2026 07:08:00 GMT", date(2026, 1, 5, 7, 8, 0, 0))
	expectParsed(t, "31 Jan 2026 23:59:59 GMT", date(2026, 1, 31, 23, 59, 59, 0))
	for _, day := range []string{"", "0", "00", "005", "015", "32", "99", "100", "-5", "+5", "5.", "5th", "a", "0x5", "1e", "\u0665"} {
		expectNotParsed(t, day+" Jan 2026 07:08:09 GMT")
	}
	for _, year := range []string{"", "0", "26", "026", "126", "02026", "12026", "-2026", "+2026", "1969", "2100", "0000", "0070", "9999", "2o26", "202 6", "'26", "19700"} {
		expectNotParsed(t, "5 Jan "+year+" 07:08:09 GMT")
	}
	for _, clock := range []string{
		"", "7", "07", "0708", "070809", "7:08", "7:08:09", "07:8", "07:8:09", "07:08:9", "007:08", "07:008", "07:08:009", "07:08:", "07::09", ":08:09", ":08", "07:", ":", "::", "07:08:09:",
		":07:08:09", "07:08:09:10", "07:08:09.5", "07.08", "07:08:", "24:00", "24:00:00", "25:00", "99:00", "07:60", "07:99", "07:08:60", "07:08:61", "07:08:99", "-7:08", "+7:08", "07:-8", "07:+8:09",
		"07:08:-9", "0a:08", "07:0a", "07:08:0a", "07 :08", "07: 08", "07:08 :09", "07:08: 09", "07 08", "07:08 09", "07,08", "07;08", "07:08AM",
	} {
		expectNotParsed(t, "5 Jan 2026 "+clock+" GMT")
		expectNotParsed(t, "Mon, 5 Jan 2026 "+clock+" +0100")
	}
	for n := range 100 {
		two := strconv.Itoa(100 + n)[1:]
		for _, s := range []string{
			two + " Jan 2026 07:08:09 GMT", strconv.Itoa(n) + " Apr 2026 07:08:09 GMT", two + " feb 2028 07:08 UT", "5 Jan 2026 " + two + ":08:09 GMT", "5 Jan 2026 07:" + two + ":09 GMT",
			"5 Jan 2026 07:08:" + two + " GMT", "5 Jan 2026 " + two + ":08 GMT", "5 Jan 2026 07:" + two + " GMT", "5 Jan 19" + two + " 07:08 GMT", "5 Jan 20" + two + " 07:08 GMT", "5 Jan " + two + "26 07:08 GMT",
		} {
			expectAsByForm(t, s)
		}
	}
}

func TestSpacesOfAText(t *testing.T) {
	want := date(2026, 1, 5, 7, 8, 9, 60)
	expectParsed(t, " MON , 05  Jan  2026 07:08:09 +0100 ", want)
	parts := []string{"", "Mon", ",", "5", "Jan", "2026", "07:08:09", "+0100", ""}
	least := []int{0, 0, 0, 1, 1, 1, 1, 0}
	for at := range least {
		for n := range 4 {
			s := ""
			for i, part := range parts {
				spaces := 1
				if i == at {
					spaces = n
				}
				s += part
				if i < len(least) {
					s += strings.Repeat(" ", spaces)
				}
			}
			if n < least[at] {
				expectNotParsed(t, s)
			} else {
				expectParsed(t, s, want)
			}
			expectNotParsed(t, strings.ReplaceAll(s, " ", "\t"))
			expectNotParsed(t, s+"\n")
			expectNotParsed(t, "\t"+s)
			expectNotParsed(t, strings.Replace(s, "Jan ", "Jan \t ", 1))
			expectNotParsed(t, strings.Replace(s, "Jan", "Jan\u00a0", 1))
		}
	}
}

// A date is written in a text, which has at most 200 bytes.
func TestLengthOfAText(t *testing.T) {
	text := "Mon, 5 Jan 2026 07:08:09 +0100"
	want := date(2026, 1, 5, 7, 8, 9, 60)
	for n := 198; n <= 203; n++ {
		spaces := strings.Repeat(" ", n-len(text))
		for _, s := range []string{spaces + text, text + spaces, "Mon" + spaces + text[3:], "Mon, " + spaces + text[5:], text[:len(text)-5] + spaces + text[len(text)-5:]} {
			if n > 200 {
				expectNotParsed(t, s)
			} else {
				expectParsed(t, s, want)
			}
		}
	}
	for _, s := range []string{
		"", " ", ",", " , ", ", ,", ":", "+", "0", "5", "GMT", "Mon", "Mon,", "Mon, 5 Jan 2026", "Jan 5 2026 07:08 GMT", "2026-01-05T07:08:09Z", "Mon Jan  5 07:08:09 2026", "5 Jan 2026 07:08",
		text + " x", text + ".", text + text, text + " " + text, "x " + text, strings.Repeat(",", 200), strings.Repeat(" ", 200), strings.Repeat("5 ", 100), strings.Repeat(" ", 100000), strings.Repeat(text, 10000),
	} {
		expectNotParsed(t, s)
	}
}

// Texts put together from pieces that are right, or nearly so.
func TestDatesOfPieces(t *testing.T) {
	for _, start := range []string{"", " ", ",", "Thu,", "thu , ", "Wed, ", "Thu ", "Thu,,"} {
		for _, day := range []string{"29 ", " 29", "9 ", "029 ", "0 "} {
			for _, month := range []string{"Feb ", "  fEB  ", "jan ", "Febr ", "2 "} {
				for _, year := range []string{"2024 ", "2023  ", "24 ", "2024"} {
					for _, clock := range []string{"23:59:59 ", "00:00 ", "24:00 ", "0:00 ", "12:34:56"} {
						for _, zone := range []string{"GMT", "UT ", "-0030", "+1400", "-1201", "Gmt", ""} {
							expectAsByForm(t, start+day+month+year+clock+zone)
						}
					}
				}
			}
		}
	}
}

// Texts with one byte left out, put in, or changed.
func TestDatesWithOneSlip(t *testing.T) {
	for _, text := range []string{"Mon, 5 Jan 2026 07:08:09 +0100", "Thu, 29 Feb 2024 23:59:59 -0030", "1 Jan 1970 00:00 GMT", " tue ,  31  mar  2099  19:01  UT "} {
		if _, ok := impl.ParseDate(text); !ok {
			t.Errorf("ParseDate(%q) = false", text)
		}
		for at := range len(text) + 1 {
			for c := range 256 {
				s := string([]byte{byte(c)})
				expectAsByForm(t, text[:at]+s+text[at:])
				if at < len(text) {
					expectAsByForm(t, text[:at]+s+text[at+1:])
				}
			}
			if at < len(text) {
				expectAsByForm(t, text[:at]+text[at+1:])
			}
			if at+1 < len(text) {
				expectAsByForm(t, text[:at]+text[at+1:at+2]+text[at:at+1]+text[at+2:])
			}
		}
	}
}

// What is read in a lenient way has one form in which it is written.
func TestOneWrittenForm(t *testing.T) {
	for s, want := range map[string]string{
		"5 jan 2026 07:08 GMT":                                   "Mon, 5 Jan 2026 07:08:00 +0000",
		" MON , 05  Jan  2026 07:08:09 +0100 ":                   "Mon, 5 Jan 2026 07:08:09 +0100",
		"29 Feb 2024 23:59:59 -0030":                             "Thu, 29 Feb 2024 23:59:59 -0030",
		"1 Jan 1970 00:00 UT":                                    "Thu, 1 Jan 1970 00:00:00 +0000",
		"WED,31 DEC 2098 00:00:01 -0000":                         "Wed, 31 Dec 2098 00:00:01 +0000",
		"09 sep 2001 01:46:40 +0545":                             "Sun, 9 Sep 2001 01:46:40 +0545",
		"fri, 13 FEB 2009 23:31:30 GMT" + strings.Repeat(" ", 9): "Fri, 13 Feb 2009 23:31:30 +0000",
	} {
		d, ok := impl.ParseDate(s)
		if got := impl.FormatDate(d); !ok || got != want {
			t.Errorf("FormatDate of ParseDate(%q) = %q, %v, want %q", s, got, ok, want)
		}
		expectParsed(t, want, d)
	}
}
