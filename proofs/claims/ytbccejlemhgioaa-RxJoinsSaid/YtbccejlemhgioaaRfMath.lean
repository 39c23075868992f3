/- how the program reads any pattern: plain functions. Nothing of the program. -/
import Derived.Test.YtbccejlemhgioaaRxMath
namespace Go.Proofs.Ytbccejlemhgioaa.rf
open rx
/-- where the reader stands: the place, the first fault's place, its code -/
structure T where
  p : Nat
  wr : Int
  co : Int
deriving DecidableEq
namespace T
def fail (at' co : Int) (t : T) : T := if t.co = 0 then { t with wr := at', co := co } else t
def fwd (t : T) : T := { t with p := t.p + 1 }
def up (dp : Int) (t : T) : St := ⟨t.p, dp, t.wr, t.co⟩
end T
def spc (c : Nat) : Bool := [92, 46, 43, 42, 63, 40, 41, 124, 91, 93, 123, 125, 94, 36, 45].contains c
def dig (c : Nat) : Int := if 48 ≤ c ∧ c ≤ 57 then (c : Int) - 48 else if 97 ≤ c ∧ c ≤ 102 then (c : Int) - 87 else -1
def spanF : Nat → Nat → Cls → Cls
  | 0, _, x => x
  | n + 1, c, x => spanF n (c + 1) (x.or (Cls.one c))
def span (a b : Nat) : Cls := spanF (b + 1 - a) a .zero
def oth (k : Cls) : Cls := ⟨18446744073709551615 - k.a, 18446744073709551615 - k.b, 18446744073709551615 - k.c, 18446744073709551615 - k.d⟩
def word : Cls := ((span 97 122).or (span 65 90)).or ((span 48 57).or (Cls.one 95))
section
variable (s : List Nat)
def nxt (t : T) : Option Nat := if t.co = 0 then s[t.p]? else none
def meets (c : Nat) (t : T) : Bool × T := if nxt s t = some c then (true, t.fwd) else (false, t)
/-- the byte of two digits at a place -/
def hex (c : Nat) (t : T) : Option Nat :=
  if c = 120 then match s[t.p]?, s[t.p + 1]? with
    | some a, some b => if 0 ≤ dig a ∧ 0 ≤ dig b then some (16 * dig a + dig b).toNat else none
    | _, _ => none
  else none
def escape (start : Nat) (t : T) : (Cls × Nat × Bool) × T :=
  match nxt s t with
  | none => ((.zero, 0, false), t.fail start 9)
  | some c =>
    if spc c = true then ((.one c, c, true), t.fwd) else
    if c = 100 then ((span 48 57, 0, false), t.fwd) else
    if c = 119 then ((word, 0, false), t.fwd) else
    match hex s c t.fwd with
    | some v => ((.one v, v, true), t.fwd.fwd.fwd)
    | none => ((.zero, 0, false), t.fwd.fail start 9)
def single (t : T) : (Cls × Nat × Bool) × T :=
  match s[t.p]? with
  | none => ((.zero, 0, false), t)
  | some c => if c = 92 then escape s t.p t.fwd else
    if c < 32 ∨ 126 < c ∨ c = 91 ∨ c = 93 ∨ c = 94 ∨ c = 45 then ((.zero, 0, false), t.fwd.fail t.p 9) else ((.one c, c, true), t.fwd)
def member (t : T) : Cls × T :=
  let r := single s t
  if r.1.2.2 = false then (r.1.1, r.2) else
  let m := meets s 45 r.2
  if m.1 = false then (r.1.1, m.2) else
  match nxt s m.2 with
  | none => (r.1.1, m.2.fail t.p 9)
  | some c => if c = 93 then (r.1.1, m.2.fail t.p 9) else
    let q := single s m.2
    if q.1.2.2 = false ∨ q.1.2.1 < r.1.2.1 then (r.1.1, q.2.fail t.p 9) else (span r.1.2.1 q.1.2.1, q.2)
/-- false: the text ended -/
def mems (start : Nat) : Nat → Cls → T → Cls × T × Bool
  | 0, x, t => (x, t, false)
  | f + 1, x, t =>
    let e := meets s 93 t
    if e.1 = true then (x, e.2, true) else
    match nxt s t with
    | none => (x, t.fail start 9, false)
    | some _ => let r := member s t; mems start f (x.or r.1) r.2
def members (start : Nat) (t : T) : Cls × T :=
  let m := meets s 94 t
  let r := mems s start (s.length + 1) .zero m.2
  if r.2.2 = false then (r.1, r.2.1) else
  let x := if m.1 = true then oth r.1 else r.1
  if x = .zero then (x, r.2.1.fail start 9) else (x, r.2.1)
def numF (start : Nat) : Nat → Nat → T → Nat × T
  | 0, n, t => (n, t)
  | f + 1, n, t => match nxt s t with
    | none => (n, t)
    | some c => if 48 ≤ c ∧ c ≤ 57 ∧ t.p - start < 4 then numF start f (10 * n + (c - 48)) t.fwd else (n, t)
def number (t : T) : (Nat × Bool) × T :=
  let r := numF s t.p 5 0 t
  let d := r.2.p - t.p
  ((r.1, decide (1 ≤ d ∧ d ≤ 3 ∧ (d = 1 ∨ s[t.p]? ≠ some 48))), r.2)
def bounds (t : T) : (Int × Int × Bool) × T :=
  let a := number s t
  if a.1.2 = false then ((0, 0, false), a.2) else
  let m := meets s 125 a.2
  if m.1 = true then ((a.1.1, a.1.1, true), m.2) else
  let c := meets s 44 a.2
  if c.1 = false then ((0, 0, false), a.2) else
  let m := meets s 125 c.2
  if m.1 = true then ((a.1.1, -1, true), m.2) else
  let b := number s c.2
  if b.1.2 = false then ((0, 0, false), b.2) else
  let m := meets s 125 b.2
  if m.1 = false ∨ b.1.1 < a.1.1 then ((0, 0, false), m.2) else ((a.1.1, b.1.1, true), m.2)
def often (t : T) : (Int × Int × Bool) × T :=
  if nxt s t = some 42 then ((0, -1, true), t.fwd) else
  if nxt s t = some 43 then ((1, -1, true), t.fwd) else
  if nxt s t = some 63 then ((0, 1, true), t.fwd) else
  if nxt s t = some 123 then
    let r := bounds s t.fwd
    if r.1.2.2 = false then (r.1, r.2.fail t.p 9) else
    if 20 < r.1.1 ∨ 20 < r.1.2.1 then (r.1, r.2.fail t.p 4) else r
  else ((0, 0, false), t)
section
variable (O : T → Pat × T)
def part (t : T) : Pat × T := let r := O t; let o := often s r.2; (many r.1 o.1, o.2)
/-- parts, one behind the other -/
def parts : Nat → T → List Pat → List Pat × T
  | 0, t, l => (l, t)
  | f + 1, t, l => match nxt s t with
    | none => (l, t)
    | some c => if c = 124 ∨ c = 41 then (l, t) else
      let r := part s O t
      parts f r.2 (if r.1.k ≠ 1 then l ++ [r.1] else l)
def row (t : T) : Pat × T := let r := parts s O (s.length + 1) t []; (Pat.gather 3 r.1, r.2)
def rowsL : Nat → T → List Pat → List Pat × T
  | 0, t, l => (l, t)
  | f + 1, t, l => let m := meets s 124 t
    if m.1 = true then let r := row s O m.2; rowsL f r.2 (l ++ [r.1]) else (l, t)
def rows (t : T) : Pat × T := let r := row s O t; let q := rowsL s O (s.length + 1) r.2 [r.1]; (Pat.gather 4 q.1, q.2)
end
/-- a part, where a group is read by G -/
def onceB (G : Nat → T → Pat × T) (t : T) : Pat × T :=
  match s[t.p]? with
  | none => (.zero, t)
  | some c =>
    if c = 40 then G t.p t.fwd else
    if c = 91 then let r := members s t.p t.fwd; (Pat.ofCls r.1, r.2) else
    if c = 92 then let r := escape s t.p t.fwd; (Pat.ofCls r.1.1, r.2) else
    if c = 46 then (Pat.ofCls (oth .zero), t.fwd) else
    if c = 45 ∨ (32 ≤ c ∧ c ≤ 126 ∧ spc c = false) then (Pat.ofCls (.one c), t.fwd) else (.zero, t.fwd.fail t.p 9)
/-- a part within whose groups so many others may stand -/
def once : Nat → T → Pat × T
  | 0 => onceB s (fun at' t => (.zero, t.fail at' 11))
  | n + 1 => onceB s (fun at' t => let r := rows s (once n) t; let m := meets s 41 r.2; (r.1, if m.1 = true then m.2 else m.2.fail at' 9))
def group (n : Nat) (at' : Nat) (t : T) : Pat × T :=
  match n with
  | 0 => (.zero, t.fail at' 11)
  | n + 1 => let r := rows s (once s n) t; let m := meets s 41 r.2; (r.1, if m.1 = true then m.2 else m.2.fail at' 9)
theorem once_eq (n : Nat) : once s n = onceB s (group s n) := by
  cases n <;> rfl
def parse : Pat × Int × Int :=
  if 60 < s.length then (.zero, 0, 4) else
  let r := rows s (once s 12) ⟨0, 0, 0⟩
  let t := if r.2.co = 0 ∧ r.2.p < s.length then r.2.fail r.2.p 9 else r.2
  if t.co ≠ 0 then (.zero, t.wr, t.co) else (r.1, 0, 0)
end
/-- a(b|c)*d{2,3} -/
def ex1 : List Nat := [97, 40, 98, 124, 99, 41, 42, 100, 123, 50, 44, 51, 125]
end Go.Proofs.Ytbccejlemhgioaa.rf
