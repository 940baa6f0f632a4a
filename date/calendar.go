package date

// span is a month of the calendar, with its days in a year that isn't a leap year.
type span struct {
	name string
	days int
}

var months = [12]span{
	{"Jan", 31}, {"Feb", 28}, {"Mar", 31}, {"Apr", 30}, {"May", 31}, {"Jun", 30},
	{"Jul", 31}, {"Aug", 31}, {"Sep", 30}, {"Oct", 31}, {"Nov", 30}, {"Dec", 31},
}

func leap(year int) bool {
	return year%4 == 0 && (year%100 != 0 || year%400 == 0)
}

// daysOf: how many a month has in that year.
func daysOf(year, month int) int {
	if month == 2 && leap(year) {
		return months[month-1].days + 1
	}
	return months[month-1].days
}

// there: is there such a day in the calendar?
func there(year, month, dom int) bool {
	return month >= 1 && month <= len(months) && dom >= 1 && dom <= daysOf(year, month)
}

// daysAhead: of the years from 0 on, up to the one ahead of this one. Year 0 is a leap year, so that those are rounded up.
func daysAhead(year int) int {
	return year*365 + (year+3)/4 - (year+99)/100 + (year+399)/400
}

// from1970: the day of a date of any year from 0 on; below 0, if it is ahead of 1970.
func from1970(year, month, dom int) int {
	n := daysAhead(year) - daysAhead(firstYear) + dom - 1
	for m := 1; m < month; m++ {
		n += daysOf(year, m)
	}
	return n
}
