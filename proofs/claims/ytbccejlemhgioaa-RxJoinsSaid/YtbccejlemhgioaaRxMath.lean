/- patterns as plain data, and how the program reads them. Nothing of the program. -/
import Derived.Test.YtbccejlemhgioaaKit
namespace Go.Proofs.Ytbccejlemhgioaa.rx
/-- a class: four words of 64 bits -/
structure Cls where
  a : Nat
  b : Nat
  c : Nat
  d : Nat
deriving DecidableEq
namespace Cls
def zero : Cls := ⟨0, 0, 0, 0⟩
def one (x : Nat) : Cls := if x < 64 then ⟨2 ^ x, 0, 0, 0⟩ else if x < 128 then ⟨0, 2 ^ (x - 64), 0, 0⟩ else if x < 192 then ⟨0, 0, 2 ^ (x - 128), 0⟩ else ⟨0, 0, 0, 2 ^ (x - 192)⟩
def wd (k : Cls) (x : Nat) : Nat := if x < 64 then k.a else if x < 128 then k.b else if x < 192 then k.c else k.d
def has (k : Cls) (x : Nat) : Bool := (k.wd x).testBit (x % 64)
def or (k l : Cls) : Cls := ⟨k.a ||| l.a, k.b ||| l.b, k.c ||| l.c, k.d ||| l.d⟩
end Cls
inductive Pat where
  | mk (k : Int) (cl : Cls) (ks : List Pat) (mn mx : Int)
instance : Inhabited Pat := ⟨.mk 0 .zero [] 0 0⟩
namespace Pat
def k : Pat → Int | mk k _ _ _ _ => k
def cl : Pat → Cls | mk _ c _ _ _ => c
def ks : Pat → List Pat | mk _ _ l _ _ => l
def mn : Pat → Int | mk _ _ _ n _ => n
def mx : Pat → Int | mk _ _ _ _ n => n
def zero : Pat := .mk 0 .zero [] 0 0
def ofCls (c : Cls) : Pat := .mk 2 c [] 0 0
/-- as one of a kind, those of the same kind laid open -/
def flat (kind : Int) (l : List Pat) : List Pat := l.flatMap (fun x => if x.k = kind then x.ks else [x])
def gather (kind : Int) (l : List Pat) : Pat := match flat kind l with
  | [] => .mk 1 .zero [] 0 0
  | [x] => x
  | l => .mk kind .zero l 0 0
end Pat
/-- where the reader stands -/
structure St where
  p : Nat
  dp : Int
  wr : Int
  co : Int
deriving DecidableEq
namespace St
def fail (at' co : Int) (t : St) : St := if t.co = 0 then { t with wr := at', co := co } else t
def fwd (t : St) : St := { t with p := t.p + 1 }
end St
section
variable (s : List Nat)
def nxt (t : St) : Option Nat := if t.co = 0 then s[t.p]? else none
def meets (c : Nat) (t : St) : Bool × St := if nxt s t = some c then (true, t.fwd) else (false, t)
/-- how often a part is, where no bounds are told -/
def often (t : St) : (Int × Int × Bool) × St :=
  if nxt s t = some 42 then ((0, -1, true), t.fwd) else if nxt s t = some 43 then ((1, -1, true), t.fwd) else if nxt s t = some 63 then ((0, 1, true), t.fwd) else ((0, 0, false), t)
def many (x : Pat) (o : Int × Int × Bool) : Pat := if o.2.2 = false then x else if o.1 = 1 ∧ o.2.1 = 1 then x else .mk 5 .zero [x] o.1 o.2.1
variable (O : St → Pat × St)
def part (t : St) : Pat × St := let r := O t; let o := often s r.2; (many r.1 o.1, o.2)
/-- parts, one behind the other -/
def parts : Nat → St → List Pat → List Pat × St
  | 0, t, l => (l, t)
  | f + 1, t, l => match nxt s t with
    | none => (l, t)
    | some c => if c = 124 ∨ c = 41 then (l, t) else
      let r := part s O t
      parts f r.2 (if r.1.k ≠ 1 then l ++ [r.1] else l)
def row (t : St) : Pat × St := let r := parts s O (s.length + 1) t []; (Pat.gather 3 r.1, r.2)
def rowsL : Nat → St → List Pat → List Pat × St
  | 0, t, l => (l, t)
  | f + 1, t, l => let m := meets s 124 t
    if m.1 = true then let r := row s O m.2; rowsL f r.2 (l ++ [r.1]) else (l, t)
def rows (t : St) : Pat × St := let r := row s O t; let q := rowsL s O (s.length + 1) r.2 [r.1]; (Pat.gather 4 q.1, q.2)
def parse : Pat × Int × Int :=
  if 60 < s.length then (.zero, 0, 4) else
  let r := rows s O ⟨0, 0, 0, 0⟩
  let t := if r.2.co = 0 ∧ r.2.p < s.length then r.2.fail r.2.p 9 else r.2
  if t.co ≠ 0 then (.zero, t.wr, t.co) else (r.1, 0, 0)
end
/-- a part that is no group, no class, no escape and not any byte -/
def onceS (s : List Nat) (special : Nat → Bool) (t : St) : Pat × St :=
  match s[t.p]? with
  | none => (.zero, t)
  | some c => if c = 45 ∨ (32 ≤ c ∧ c ≤ 126 ∧ special c = false) then (Pat.ofCls (.one c), t.fwd) else (.zero, t.fwd.fail t.p 9)
end Go.Proofs.Ytbccejlemhgioaa.rx
