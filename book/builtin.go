package book

import "voussoir/api"

// BuiltIn returns a built-in function (chapter 3), with the sorts of its arguments and of its result.
func BuiltIn(name string) (api.Op, bool) {
	function := func(result string, args ...string) (api.Op, bool) {
		return api.Op{Name: name, Args: args, Sort: result}, true
	}
	switch name {
	case "add", "sub", "mul", "div", "mod":
		return function(api.Int, api.Int, api.Int)
	case "neg":
		return function(api.Int, api.Int)
	case "lt", "le", "gt", "ge":
		return function(api.Bool, api.Int, api.Int)
	case "eq", "ne":
		return function(api.Bool, api.Any, api.Any)
	case "and", "or":
		return function(api.Bool, api.Bool, api.Bool)
	case "not":
		return function(api.Bool, api.Bool)
	case "pick":
		return function(api.Any, api.Bool, api.Any, api.Any)
	case "cat":
		return function(api.Text, api.Text, api.Text)
	case "length":
		return function(api.Int, api.List)
	case "text":
		return function(api.Text, api.Int)
	case "join":
		return function(api.List, api.List, api.List)
	case "get":
		return function(api.Any, api.Map, api.Any)
	case "put":
		return function(api.Map, api.Map, api.Any, api.Any)
	case "has":
		return function(api.Bool, api.Map, api.Any)
	case "del":
		return function(api.Map, api.Map, api.Any)
	case "keys":
		return function(api.List, api.Map)
	case "size":
		return function(api.Int, api.Map)
	case "is":
		return function(api.Bool, api.Any, api.Text)
	case "isvalue":
		return function(api.Bool, api.Any)
	}
	return api.Op{}, false
}
