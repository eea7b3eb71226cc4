package rule

import "postroom/api"

// What may be required.
const (
	fileIntoName = "fileinto"
	rejectName   = "reject"
	envelopeName = "envelope"
	flagsName    = "imap4flags"
)

// Bytes of a box's name: those that show, and no blank.
const (
	firstNameByte = 33
	lastNameByte  = 126
)

// requirable: all that may be required.
var requirable = [...]string{fileIntoName, rejectName, envelopeName, flagsName}

// neededFor a command: what is to be required stands at the place of its kind; of the others nothing is.
var neededFor = [api.Stop + 1]string{
	api.FileInto: fileIntoName,
	api.Reject:   rejectName,
	api.SetFlag:  flagsName,
	api.AddFlag:  flagsName,
}

// envelopeParts: what an envelope has.
var envelopeParts = [...]string{"from", "to"}

// flagNames: the flags by their names.
var flagNames = [...]struct {
	name string
	flag int
}{
	{`\Seen`, api.Seen},
	{`\Answered`, api.Answered},
	{`\Flagged`, api.Flagged},
	{`\Deleted`, api.Deleted},
	{`\Draft`, api.Draft},
}

// isRequirable tells whether a script may require such a thing.
func isRequirable(name string) bool {
	for _, n := range requirable {
		if n == name {
			return true
		}
	}
	return false
}

// isEnvelopePart tells whether an envelope has such a thing.
func isEnvelopePart(name string) bool {
	for _, n := range envelopeParts {
		if n == name {
			return true
		}
	}
	return false
}

// flagOf a name; 0, if there is none.
func flagOf(name string) int {
	for _, f := range flagNames {
		if f.name == name {
			return f.flag
		}
	}
	return 0
}
