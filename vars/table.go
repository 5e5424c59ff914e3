package vars

import "standish/signs"

// What a variable tells. Those from fourDigits to dayShort tell of one part of the clock.
const (
	selected = iota
	currentLine
	currentWord
	lineIndex
	lineNumber
	file
	fileBase
	dir
	filePath
	clipboard
	fourDigits
	lastDigits
	twoDigits
	monthName
	monthShort
	dayName
	dayShort
	random
	randomHex
	uuid
)

// variable is a row of the table: a name, what it tells, and of which part of the clock, if of one.
type variable struct {
	name        string
	tells, part int
}

var table = [...]variable{
	{name: "TM_SELECTED_TEXT", tells: selected},
	{name: "TM_CURRENT_LINE", tells: currentLine},
	{name: "TM_CURRENT_WORD", tells: currentWord},
	{name: "TM_LINE_INDEX", tells: lineIndex},
	{name: "TM_LINE_NUMBER", tells: lineNumber},
	{name: "TM_FILENAME", tells: file},
	{name: "TM_FILENAME_BASE", tells: fileBase},
	{name: "TM_DIRECTORY", tells: dir},
	{name: "TM_FILEPATH", tells: filePath},
	{name: "CLIPBOARD", tells: clipboard},
	{name: "CURRENT_YEAR", tells: fourDigits, part: year},
	{name: "CURRENT_YEAR_SHORT", tells: lastDigits, part: year},
	{name: "CURRENT_MONTH", tells: twoDigits, part: month},
	{name: "CURRENT_DATE", tells: twoDigits, part: day},
	{name: "CURRENT_HOUR", tells: twoDigits, part: hour},
	{name: "CURRENT_MINUTE", tells: twoDigits, part: minute},
	{name: "CURRENT_SECOND", tells: twoDigits, part: second},
	{name: "CURRENT_MONTH_NAME", tells: monthName, part: month},
	{name: "CURRENT_MONTH_NAME_SHORT", tells: monthShort, part: month},
	{name: "CURRENT_DAY_NAME", tells: dayName, part: weekday},
	{name: "CURRENT_DAY_NAME_SHORT", tells: dayShort, part: weekday},
	{name: "RANDOM", tells: random},
	{name: "RANDOM_HEX", tells: randomHex},
	{name: "UUID", tells: uuid},
}

var months = [...]string{"January", "February", "March", "April", "May", "June", "July", "August", "September", "October", "November", "December"}

var days = [...]string{"Sunday", "Monday", "Tuesday", "Wednesday", "Thursday", "Friday", "Saturday"}

// find returns the variable of this name, and whether there is one.
func find(name []rune) (variable, bool) {
	for _, v := range table {
		if signs.Same(name, []rune(v.name)) {
			return v, true
		}
	}
	return variable{}, false
}
