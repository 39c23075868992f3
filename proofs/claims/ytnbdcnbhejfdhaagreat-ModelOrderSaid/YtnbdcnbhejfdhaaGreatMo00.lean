/- texts put together: Kit, Cells, Dots, DotMath, DotCmp. -/
import Derived.BigQuiet
import Derived.ChangeArms
import Derived.Deep.DeepFit
import Derived.Deep.LoopGhost
import Derived.Deep.QuietTactic
import Derived.Deep.SlicePairs
import Derived.IntWalk
import Derived.Laws.AppendOwnNone
import Derived.Laws.CopyOwn
import Derived.Lib.Hide
import Derived.Outline
import Derived.Shelf.GgSortFunc.InsertionK
import Derived.Shelf.SlSortCmp.Insertion
import Derived.Sort.Grow
import Derived.StillTailTactics
import Derived.Test.YtnbdcnbhejfdhaaGreatRows
import Derived.WalkKit
import Derived.WalkLawsBesides
import Derived.WalkSmall
import Derived.WalkSpells
import Derived.WideShapes
import Derived.Test.YtnbdcnbhejfdhaaGreatLv00
import Derived.Test.YtnbdcnbhejfdhaaGreatLv01
import Derived.Test.YtnbdcnbhejfdhaaGreatLv02
import Derived.Test.YtnbdcnbhejfdhaaGreatLv03
import Derived.Test.YtnbdcnbhejfdhaaGreatLv04
import Derived.Test.YtnbdcnbhejfdhaaGreatLv05
import Derived.Test.YtnbdcnbhejfdhaaGreatLv06
import Derived.Test.YtnbdcnbhejfdhaaGreatLv07
import Derived.Test.YtnbdcnbhejfdhaaGreatLv08
import Derived.Test.YtnbdcnbhejfdhaaGreatLv09
import Derived.Test.YtnbdcnbhejfdhaaGreatLv10
import Derived.Test.YtnbdcnbhejfdhaaGreatLv11
namespace Go.Proofs.YtnbdcnbhejfdhaaGreat.kit
open Go.RowKit
theorem appN {P : Program} {w : World} {ops : Array Oper} {rest : List Oper} {o : Oper} {a : Act} {Q : Exit → Act → World → Prop}
  (s x : Operand) (t : TypeId) (hgd : o.guard = none)
  (ho : o.op = .call { callee := .builtin .append, args := #[s, x], argTypes := #[t, t] })
  (base : Nat) {e : TypeId} {z : Value} {size bytes : Nat} (ht : P.underlying t = some (.slice e)) (hi : (P.info? e).map (fun i => (i.zero, i.size, i.bytes)) = some (some z, size, bytes))
  (hzs : z.cells.size = size) (hsz : 0 < size) (hb1 : 0 < bytes)
  {v : Value} {n : Nat} {xs : List Value} (hown : w.ownsRow base e size v n xs) (hs : a.eval s = v)
  {ao : Option Addr} {m c : Nat} (news : List Value) (hx : a.eval x = .slice ao m c) (hl : news.length = m * size) (hnone : ao = none → m = 0 ∧ c = 0)
  (hnews : ∀ ad, ao = some ad → ∀ j u, news[j]? = some u → w.cell? (ad.add j) = some u) (h1 : ∀ u ∈ news, u.oneCell' = true)
  (hbytes : (n + m) * bytes ≤ 140737488355328) (hbase : base ≤ w.heap.size)
  (h : ∀ v' w', w'.ownsRow base e size v' (n + m) (xs ++ news) → Below base w w' → wpList P ops Q rest (a.put o.dst v') w') :
  wpList P ops Q (o :: rest) a w := by
 obtain ⟨i, hi, hz, hsize, hby⟩ := info_parts hi
 have hle : n + m ≤ (n + m) * bytes := Nat.le_mul_of_pos_right _ hb1
 cases ao with
 | none =>
  obtain ⟨rfl, rfl⟩ := hnone rfl
  obtain rfl : news = [] := List.eq_nil_of_length_eq_zero (by simpa using hl)
  refine wpList_append_own_none hgd s x t ho base e i size ht hi v n xs hs hown hx ?_
  have := h v w (by simpa using hown) (Below.refl _ _)
  exact this
 | some ad =>
  refine wpList_append_own _ hgd s x t ho base e i z size bytes ht hi hz hsize hby hzs hsz v n xs hs hown ad m c news hx hl (hnews ad rfl) h1
   (by unfold maxLen; omega) hbytes hbase fun v' w' r1 r2 _ => h v' w' r1 ?_
  refine (Below.refl base w).grown r2 hbase ?_
  intro k hk
  exact (hown.lt k hk).1
theorem umod (x : Int) {m : Nat} (hm : 0 < m) : ∃ j : Nat, j < m ∧ (IntKind.u64.wrap x).tmod (m : Int) = (j : Int) := by
 have h0 : 0 ≤ IntKind.u64.wrap x := by
  simp only [IntKind.wrap, IntKind.signed, IntKind.bits]
  exact Int.emod_nonneg _ (by decide)
 have h1 : 0 ≤ (IntKind.u64.wrap x).tmod (m : Int) := Int.tmod_nonneg _ h0
 have h2 : (IntKind.u64.wrap x).tmod (m : Int) < m := Int.tmod_lt_of_pos _ (by omega)
 exact ⟨((IntKind.u64.wrap x).tmod (m : Int)).toNat, by omega, by omega⟩
end Go.Proofs.YtnbdcnbhejfdhaaGreat.kit
namespace Go.Proofs.YtnbdcnbhejfdhaaGreat.cl
open Go.RowKit
theorem Cells.news {w : World} {B : Nat} {ao : Option Addr} {n cap k : Nat} {vs : List Value} (h : Cells w B (.slice ao n cap) n k vs) : (ao = none → n = 0 ∧ cap = 0) ∧ (∀ ad, ao = some ad → ∀ j u, vs[j]? = some u → w.cell? (ad.add j) = some u) := by
 obtain ⟨h0, ao', c, e, ⟨h1, h2⟩, h3, h4⟩ := h
 simp only [Value.slice.injEq] at e
 obtain ⟨rfl, _, rfl⟩ := e
 refine ⟨fun e => ⟨by have := h1 e; omega, h1 e⟩, fun ad e j u hj => ?_⟩
 have hjl : j < vs.length := (List.getElem?_eq_some_iff.1 hj).1
 have hn : 0 < n := by
  rcases Nat.eq_zero_or_pos n with h | h
  ·
   rw [h, Nat.zero_mul] at h0; omega
  ·
   exact h
 obtain ⟨b, o, e2, _, hc⟩ := h4 hn
 rw [e] at e2
 obtain rfl := Option.some.inj e2
 rw [Addr.add_lit]
 exact hc j u hj
theorem own_none {w W : World} (t : TypeId) (h : w.heap.size ≤ W.heap.size) (k : Nat) : (W.alloc (.cells #[] t)).ownsRow w.heap.size t k (.slice (some ⟨W.heap.size, 0, none⟩) 0 0) 0 [] := by
 refine ⟨by simp, Or.inr ⟨W.heap.size, 0, #[], rfl, h, ?_, Nat.le_refl _, Nat.zero_le _, by simp, by simp⟩⟩
 show (W.heap.push _)[W.heap.size]? = _
 simp
end Go.Proofs.YtnbdcnbhejfdhaaGreat.cl
