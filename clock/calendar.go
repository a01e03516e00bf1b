package clock

import "stele/api"

const (
	firstDay = -719162 // January 1 of the year 1
	lastDay  = 2932896 // December 31 of lastYear
	lastYear = 9999
)

// Days of years that follow one another. Only the longest is always of the
// same length: a century may lack its last leap day, four years theirs.
const (
	yearDays        = 365
	fourYearDays    = 4*yearDays + 1
	centuryDays     = 25*fourYearDays - 1
	fourCenturyDays = 4*centuryDays + 1
)

// Civil: the year, the month and the day of a day; 0, 0, 0, if it is of no
// year from 1 to 9999.
func Civil(day int) (y, m, d int) {
	if day < firstDay || day > lastDay {
		return 0, 0, 0
	}
	y, left := yearOf(day - firstDay)
	m = 1
	for _, days := range monthDays(y) {
		if left < days {
			break
		}
		left -= days
		m++
	}
	return y, m, left + 1
}

// Day: the number of a day; ErrTime, if there is no such day.
func Day(y, m, d int) (int, api.Errno) {
	if y < 1 || y > lastYear || m < 1 || m > 12 {
		return 0, api.ErrTime
	}
	months := monthDays(y)
	if d < 1 || d > months[m-1] {
		return 0, api.ErrTime
	}
	day := firstDay + daysAhead(y) + d - 1
	for _, days := range months[:m-1] {
		day += days
	}
	return day, api.OK
}

// yearOf: the year that so many days behind January 1 of the year 1 are in,
// and how many of them are in it.
func yearOf(left int) (y, rest int) {
	y = 1 + left/fourCenturyDays*400
	left %= fourCenturyDays
	// The last day of four centuries would begin a fifth one, and that of
	// four years a fifth year: it still belongs to the fourth.
	centuries := min(left/centuryDays, 3)
	y += centuries * 100
	left -= centuries * centuryDays
	y += left / fourYearDays * 4
	left %= fourYearDays
	years := min(left/yearDays, 3)
	return y + years, left - years*yearDays
}

// daysAhead: of all the years from 1 on that are ahead of y.
func daysAhead(y int) int {
	y--
	return y*yearDays + y/4 - y/100 + y/400
}

func leap(y int) bool { return y%4 == 0 && (y%100 != 0 || y%400 == 0) }

// monthDays: how many days the months of y have.
func monthDays(y int) [12]int {
	months := [12]int{31, 28, 31, 30, 31, 30, 31, 31, 30, 31, 30, 31}
	if leap(y) {
		months[1]++
	}
	return months
}
