package desk_test

import (
	"sealring/audit"
	"sealring/auth"
	"sealring/b64"
	"sealring/batch"
	"sealring/block"
	"sealring/bound"
	"sealring/canon"
	"sealring/caps"
	"sealring/conhash"
	"sealring/curve"
	"sealring/dag"
	"sealring/decode"
	"sealring/delta"
	"sealring/desk"
	"sealring/edkey"
	"sealring/edsign"
	"sealring/edu"
	"sealring/encode"
	"sealring/envelope"
	"sealring/esc"
	"sealring/eventid"
	"sealring/field"
	"sealring/frame"
	"sealring/host"
	"sealring/ident"
	"sealring/inbox"
	"sealring/keep"
	"sealring/keyring"
	"sealring/lex"
	"sealring/match"
	"sealring/mix"
	"sealring/mult"
	"sealring/num"
	"sealring/octet"
	"sealring/outbox"
	"sealring/parse"
	"sealring/pcode"
	"sealring/power"
	"sealring/prime"
	"sealring/recog"
	"sealring/redact"
	"sealring/refhash"
	"sealring/report"
	"sealring/room"
	"sealring/roots"
	"sealring/scalar"
	"sealring/schema"
	"sealring/sha2"
	"sealring/sha5"
	"sealring/sigs"
	"sealring/state"
	"sealring/strip"
	"sealring/trail"
	"sealring/tree"
	"sealring/utf"
	"sealring/verdict"
	"sealring/version"
	"sealring/wide"
)

// calls are the functions that the chapters list, package by package; generic ones of both kinds of words.
func calls() map[string]map[string]any {
	return map[string]map[string]any{
		"audit":    {"Room": audit.Room, "Sound": audit.Sound},
		"auth":     {"Check": auth.Check, "Member": auth.Member},
		"b64":      {"Decode": b64.Decode, "Encode": b64.Encode, "Size": b64.Size},
		"batch":    {"All": batch.All, "Join": batch.Join, "Split": batch.Split},
		"block":    {"New": block.New, "Pad": block.Pad},
		"bound":    {"Log": bound.Log, "Steps": bound.Steps},
		"canon":    {"Encode": canon.Encode, "Join": canon.Join, "Pieces": canon.Pieces, "Size": canon.Size},
		"caps":     {"Hash": caps.Hash, "Name": caps.Name, "Refs": caps.Refs, "Sign": caps.Sign, "Size": caps.Size},
		"conhash":  {"Check": conhash.Check, "Of": conhash.Of, "Put": conhash.Put},
		"curve":    {"Add": curve.Add, "Base": curve.Base, "D": curve.D, "Double": curve.Double, "Make": curve.Make, "Neg": curve.Neg, "NewAdder": curve.NewAdder, "Same": curve.Same, "XY": curve.XY, "Zero": curve.Zero},
		"dag":      {"Of": dag.Of},
		"decode":   {"Decode": decode.Decode, "Reads": decode.Reads},
		"delta":    {"Apply": delta.Apply, "Of": delta.Of, "Turn": delta.Turn},
		"desk":     {"New": desk.New, "Run": desk.Run},
		"edkey":    {"Of": edkey.Of, "Public": edkey.Public},
		"edsign":   {"Sign": edsign.Sign, "Verify": edsign.Verify},
		"edu":      {"Check": edu.Check, "Count": edu.Count, "Type": edu.Type, "Types": edu.Types},
		"encode":   {"Encode": encode.Encode, "Size": encode.Size},
		"envelope": {"Check": envelope.Check, "Sign": envelope.Sign, "Signed": envelope.Signed},
		"esc":      {"Quote": esc.Quote, "Size": esc.Size, "Unquote": esc.Unquote},
		"eventid":  {"All": eventid.All, "Of": eventid.Of},
		"field":    {"Check": field.Check, "Low": field.Low, "May": field.May, "Most": field.Most, "Must": field.Must, "Text": field.Text},
		"frame":    {"Read": frame.Read, "Same": frame.Same, "Write": frame.Write},
		"host":     {"Kind": host.Kind, "Parts": host.Parts},
		"ident":    {"Event": ident.Event, "Key": ident.Key, "Room": ident.Room, "Split": ident.Split, "User": ident.User},
		"inbox":    {"New": inbox.New},
		"keep":     {"Content": keep.Content, "Inner": keep.Inner, "Top": keep.Top},
		"keyring":  {"New": keyring.New},
		"lex":      {"All": lex.All, "Next": lex.Next, "Tokens": lex.Tokens},
		"match":    {"Glob": match.Glob, "Passes": match.Passes, "Pick": match.Pick},
		"mix":      {"Choose": mix.Choose[uint32], "Choose 64": mix.Choose[uint64], "Most": mix.Most[uint32], "Most 64": mix.Most[uint64], "Right": mix.Right[uint32], "Right 64": mix.Right[uint64], "Sum": mix.Sum[uint32], "Sum 64": mix.Sum[uint64], "Turns": mix.Turns[uint32], "Turns 64": mix.Turns[uint64]},
		"mult":     {"Base": mult.Base, "Both": mult.Both, "Main": mult.Main, "Small": mult.Small, "Times": mult.Times},
		"num":      {"Fits": num.Fits, "Scan": num.Scan, "Show": num.Show},
		"octet":    {"Get32": octet.Get32, "Get64": octet.Get64, "Hex": octet.Hex, "Little": octet.Little, "Low": octet.Low, "Put32": octet.Put32, "Put64": octet.Put64, "Unhex": octet.Unhex},
		"outbox":   {"New": outbox.New},
		"parse":    {"Depth": parse.Depth, "Parse": parse.Parse},
		"pcode":    {"Decode": pcode.Decode, "Encode": pcode.Encode},
		"power":    {"Event": power.Event, "May": power.May, "Of": power.Of, "User": power.User},
		"prime":    {"Add": prime.Add, "Bytes": prime.Bytes, "Inv": prime.Inv, "Mod": prime.Mod, "Mul": prime.Mul, "Neg": prime.Neg, "Num": prime.Num, "Odd": prime.Odd, "Of": prime.Of, "P": prime.P, "Pow": prime.Pow, "Root": prime.Root, "Small": prime.Small, "Sub": prime.Sub},
		"recog":    {"All": recog.All, "Is": recog.Is},
		"redact":   {"Only": redact.Only, "Redact": redact.Redact},
		"refhash":  {"Of": refhash.Of, "Same": refhash.Same},
		"report":   {"Line": report.Line, "Lines": report.Lines, "Result": report.Result, "Room": report.Room, "Verdict": report.Verdict},
		"room":     {"New": room.New},
		"roots":    {"Cube": roots.Cube, "Prime": roots.Prime, "Square": roots.Square},
		"scalar":   {"L": scalar.L, "Of": scalar.Of, "Product": scalar.Product, "Reduce": scalar.Reduce, "Sum": scalar.Sum},
		"schema":   {"Check": schema.Check, "Mays": schema.Mays, "Rules": schema.Rules},
		"sha2":     {"New": sha2.New, "Of": sha2.Of},
		"sha5":     {"New": sha5.New, "Of": sha5.Of},
		"sigs":     {"All": sigs.All, "Get": sigs.Get, "Put": sigs.Put, "Without": sigs.Without},
		"state":    {"At": state.At, "Of": state.Of, "Same": state.Same},
		"strip":    {"Content": strip.Content, "Signing": strip.Signing, "Without": strip.Without},
		"trail":    {"All": trail.All, "At": trail.At, "Put": trail.Put, "Read": trail.Read, "Write": trail.Write},
		"tree":     {"All": tree.All, "Bool": tree.Bool, "Check": tree.Check, "Count": tree.Count, "Depth": tree.Depth, "Exact": tree.Exact, "Get": tree.Get, "Int": tree.Int, "List": tree.List, "Map": tree.Map, "Null": tree.Null, "Put": tree.Put, "Same": tree.Same, "Sorted": tree.Sorted, "Text": tree.Text, "Without": tree.Without},
		"utf":      {"All": utf.All, "Compare": utf.Compare, "Next": utf.Next, "Put": utf.Put, "Valid": utf.Valid},
		"verdict":  {"All": verdict.All, "Judge": verdict.Judge, "Passes": verdict.Passes},
		"version":  {"Alike": version.Alike, "Of": version.Of},
		"wide":     {"Add": wide.Add, "Cmp": wide.Cmp, "Mul": wide.Mul, "Of": wide.Of, "Rem": wide.Rem, "Small": wide.Small, "Sub": wide.Sub},
	}
}
