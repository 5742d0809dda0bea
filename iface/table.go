package iface

import "compositor/api"

// A description is what the chapter's table says of an interface, without its operations: with them, the table would be too large for the package level, so that functions hold them.
type description struct {
	name    string
	version int
}

var interfaces = [...]description{
	{"display", 1},
	{"registry", 1},
	{"callback", 1},
	{"shell", 2},
	{"buffer", 1},
	{"surface", 3},
	{"subsurface", 1},
	{"toplevel", 1},
	{"popup", 1},
	{"seat", 1},
	{"pointer", 1},
	{"keyboard", 1},
	{"touch", 1},
	{"output", 1},
	{"presentation", 1},
}

// kinds holds the argument kind that each letter of signatures denotes, and 0 for all other bytes below the last letter.
var kinds = [...]int{
	'a': api.ArgArray,
	'f': api.ArgFixed,
	'i': api.ArgInt,
	'n': api.ArgNewID,
	'o': api.ArgObject,
	's': api.ArgString,
	'u': api.ArgUint,
}

// requests returns the requests of an interface in order.
func requests(name string) []Operation {
	switch name {
	case "display":
		return []Operation{{"sync", "n", 1}, {"get_registry", "n", 1}}
	case "registry":
		return []Operation{{"bind", "usun", 1}}
	case "shell":
		return []Operation{{"create_surface", "n", 1}, {"create_buffer", "niiua", 1}}
	case "surface":
		return []Operation{
			{"destroy", "", 1}, {"attach", "o", 1}, {"damage", "iiii", 1}, {"frame", "n", 1},
			{"set_opaque", "a", 1}, {"set_input", "a", 1}, {"commit", "", 1},
			{"get_subsurface", "no", 1}, {"get_toplevel", "n", 1}, {"get_popup", "noiiiiiiuu", 1},
			{"set_scale", "i", 2}, {"set_transform", "i", 2}, {"set_viewport", "ii", 3},
		}
	case "subsurface":
		return []Operation{
			{"destroy", "", 1}, {"set_position", "ii", 1}, {"place_above", "o", 1}, {"place_below", "o", 1},
			{"set_sync", "", 1}, {"set_desync", "", 1},
		}
	case "toplevel":
		return []Operation{{"destroy", "", 1}, {"set_state", "ui", 1}, {"ack_configure", "u", 1}}
	case "popup":
		return []Operation{{"destroy", "", 1}, {"ack_configure", "u", 1}}
	case "seat":
		return []Operation{
			{"get_pointer", "n", 1}, {"get_keyboard", "n", 1}, {"get_touch", "n", 1},
			{"set_selection", "su", 1}, {"start_drag", "oosuu", 1}, {"accept_drag", "s", 1},
			{"set_actions", "uu", 1}, {"finish_drag", "", 1},
		}
	case "buffer", "presentation":
		return []Operation{{"destroy", "", 1}}
	case "pointer", "keyboard", "touch", "output":
		return []Operation{{"release", "", 1}}
	}
	return nil
}

// events returns the events of an interface in order.
func events(name string) []Operation {
	switch name {
	case "display":
		return []Operation{{"error", "ou", 1}, {"delete_id", "u", 1}}
	case "registry":
		return []Operation{{"global", "usu", 1}, {"global_remove", "u", 1}}
	case "callback":
		return []Operation{{"done", "u", 1}}
	case "toplevel":
		return []Operation{{"configure", "uiiu", 1}, {"close", "", 1}}
	case "popup":
		return []Operation{{"configure", "uii", 1}, {"done", "", 1}}
	case "seat":
		return []Operation{{"selection", "u", 1}}
	case "pointer":
		return []Operation{
			{"enter", "uoii", 1}, {"leave", "uo", 1}, {"motion", "uii", 1}, {"button", "uuuu", 1},
			{"axis", "uui", 1}, {"frame", "", 1},
		}
	case "keyboard":
		return []Operation{{"enter", "uo", 1}, {"leave", "uo", 1}, {"key", "uuuu", 1}, {"modifiers", "uuu", 1}}
	case "touch":
		return []Operation{{"down", "uuouii", 1}, {"motion", "uuii", 1}, {"up", "uuu", 1}}
	case "output":
		return []Operation{{"mode", "iii", 1}, {"done", "", 1}}
	case "presentation":
		return []Operation{{"presented", "uu", 1}, {"discarded", "", 1}}
	}
	return nil
}
