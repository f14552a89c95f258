package study

import (
	"slices"
	"strconv"
	"strings"

	"canvass/api"
	"canvass/field"
	"canvass/proof"
	"canvass/quest"
	"canvass/value"
)

// lastDevice is the greatest number of a device of the console; the centre is 0.
const lastDevice = 3

// Run executes the lines of a script, and returns one line for each command (T11).
func Run(script string) string {
	lines := linesIn(script)
	end := slices.Index(lines, "end")
	if end < 0 {
		return reply(nil, api.ErrSyntax)
	}
	head, commands := lines[:end], lines[end+1:]
	f, _, fault := quest.Read(strings.Join(slices.Concat(head, []string{""}), "\n"))
	if fault != api.OK {
		return reply(nil, fault)
	}
	if len(commands) > api.MaxConsole {
		return reply(nil, api.ErrLarge)
	}
	c, fault := consoleOf(f)
	if fault != api.OK {
		return reply(nil, fault)
	}
	var out strings.Builder
	for _, line := range commands {
		out.WriteString(reply(c.do(line)))
	}
	return out.String()
}

// reply returns the line that a command replies.
func reply(parts []string, fault api.Fault) string {
	if fault != api.OK {
		return "error " + strconv.Itoa(int(fault)) + "\n"
	}
	return strings.Join(slices.Concat([]string{"ok"}, parts), " ") + "\n"
}

// console is what commands work with. Once a command other than quota has come, the plan stays, and there are devices.
type console struct {
	study    *study
	plan     api.Plan
	devices  []*field.Device // by their numbers
	commands map[string]command
	dead     func() ([]string, api.Fault)
}

func consoleOf(f api.Form) (*console, api.Fault) {
	s, fault := studyOf(f)
	if fault != api.OK {
		return nil, fault
	}
	c := &console{study: s, plan: api.Plan{Form: f}, dead: once(func() ([]string, api.Fault) { return proof.Dead(f) })}
	c.commands = c.allCommands()
	return c, api.OK
}

// once returns a function that computes something when it is first called, and tells it again later: the form of a console stays, and a proof can take long.
func once(compute func() ([]string, api.Fault)) func() ([]string, api.Fault) {
	var names []string
	var fault api.Fault
	isKnown := false
	return func() ([]string, api.Fault) {
		if !isKnown {
			names, fault = compute()
			isKnown = true
		}
		return names, fault
	}
}

// do executes a command.
func (c *console) do(line string) ([]string, api.Fault) {
	name, rest, hasMore := strings.Cut(line, " ")
	command, isKnown := c.commands[name]
	if !isKnown {
		return nil, api.ErrSyntax
	}
	w, isRead := wordsOf(command.form, rest, hasMore)
	if !isRead {
		return nil, api.ErrSyntax
	}
	if name != "quota" {
		c.begin()
	}
	if slices.ContainsFunc(w.devices, func(device int) bool { return device > lastDevice }) {
		return nil, api.ErrRange
	}
	return command.do(w)
}

// begin makes the devices, if there are none yet. The plan is one that field.CheckPlan accepts.
func (c *console) begin() {
	if len(c.devices) > 0 {
		return
	}
	for number := range lastDevice + 1 {
		device, _ := field.New(c.plan, number)
		c.devices = append(c.devices, device)
	}
}

// command is a kind of commands: what stands behind its name, and what it does.
type command struct {
	form string
	do   func(w words) ([]string, api.Fault)
}

// words are the words of a command behind its name, in their order.
type words struct {
	devices []int    // D, as far as it must be one of the devices of the console
	numbers []int    // ID, N and P, and other D
	names   []string // NAME and SEED
	key     api.Key
	value   api.Value
	expr    string
}

// wordsOf reads the words of a text, if there is one, by a form, and reports whether it has it.
func wordsOf(form, text string, isText bool) (words, bool) {
	var w words
	for part := range strings.FieldsSeq(form) {
		if !isText {
			return words{}, false
		}
		word := text
		if part == "V" || part == "EXPR" {
			isText = false
		} else {
			word, text, isText = strings.Cut(text, " ")
		}
		if !w.take(part, word) {
			return words{}, false
		}
	}
	return w, !isText
}

// take takes a word for a part of the form of a command, and reports whether it is one.
func (w *words) take(part, word string) (isRight bool) {
	switch part {
	case "D":
		n, isNumber := numberOf(word)
		w.devices, isRight = append(w.devices, n), isNumber
	case "NAME", "SEED":
		w.names, isRight = append(w.names, word), word != ""
	case "KEY":
		w.key, isRight = keyOf(word)
	case "V":
		v, fault := value.Read(word)
		w.value, isRight = v, fault == api.OK
	case "EXPR":
		w.expr, isRight = word, word != "" && word[0] != ' '
	default:
		n, isNumber := numberOf(word)
		w.numbers, isRight = append(w.numbers, n), isNumber
	}
	return isRight
}
