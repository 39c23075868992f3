/- codec: the reader in its variable; number, text. -/
import Derived.Test.YtghbkieflifegaaCdRMath
import Derived.Test.YtghbkieflifegaaCdWl
namespace Go.Proofs.Ytghbkieflifegaa
open Go.RowKit Go.ChangeShapes cl

/-- the reader's variable at p -/
def Rd (p : Nat) (s : ByteArray) (a : Nat) (w : World) : Prop := w.heap[p]? = some (.cells #[.string s, .int .i64 (a : Int)] 69 (0, 0))
/-- all but the blocks of type T stay as they were -/
structure Kt (T : TypeId) (w w' : World) : Prop where
  size : w.heap.size ≤ w'.heap.size
  keep : ∀ q, q < w.heap.size → (∀ cur fr, w.heap[q]? ≠ some (.cells cur T fr)) → w'.heap[q]? = w.heap[q]?
theorem grown_trans {w w1 w2 : World} {r : Option Nat} (h : w.grownBy w1 r) (h2 : w1.grownBy w2 r) : w.grownBy w2 r :=
  ⟨h2.os.trans h.os, h2.tape.trans h.tape, h2.output.trans h.output, Nat.le_trans h.size h2.size, fun k hk hr => (h2.block k (Nat.lt_of_lt_of_le hk h.size) hr).trans (h.block k hk hr)⟩
theorem grown_below' {w w' : World} {r : Option Nat} (h : Below w.heap.size w w') : w.grownBy w' r := ⟨h.os, h.tape, h.output, h.size, fun k hk _ => h.block k hk⟩
theorem Kt.of_grown {T : TypeId} {w w' : World} {p : Nat} {cur : Array Value} {fr : Nat × Nat} (h : w.grownBy w' (some p)) (hp : w.heap[p]? = some (.cells cur T fr)) : Kt T w w' :=
  ⟨h.size, fun q hq hn => h.block q hq (fun e => hn cur fr (by cases e; exact hp))⟩
theorem Kt.of_below {T : TypeId} {w w' : World} (h : Below w.heap.size w w') : Kt T w w' := ⟨h.size, fun q hq _ => h.block q hq⟩
theorem Kt.trans {T : TypeId} {w w1 w2 : World} (h : Kt T w w1) (h2 : Kt T w1 w2) : Kt T w w2 :=
  ⟨Nat.le_trans h.size h2.size, fun q hq hn => (h2.keep q (Nat.lt_of_lt_of_le hq h.size) (fun cur fr => by rw [h.keep q hq hn]; exact hn cur fr)).trans (h.keep q hq hn)⟩
theorem own_kt {T e : TypeId} {B k n : Nat} {v : Value} {xs : List Value} {w w' : World} (h : w.ownsRow B e k v n xs) (hk : Kt T w w') (hne : e ≠ T) : w'.ownsRow B e k v n xs := by
  refine ⟨h.1, ?_⟩
  rcases h.2 with ⟨rfl, h0⟩ | ⟨g, cap, cur, rfl, hb, hg, r⟩
  · exact Or.inl ⟨rfl, h0⟩
  · refine Or.inr ⟨g, cap, cur, rfl, hb, ?_, r⟩
    rw [hk.keep g (lt_of_block hg) (fun cur' fr e => by
      rw [hg] at e
      simp only [Option.some.injEq, Obj.cells.injEq] at e
      exact hne e.2.1)]
    exact hg
theorem own_base {e : TypeId} {B B' k n : Nat} {v : Value} {xs : List Value} {w : World} (h : w.ownsRow B e k v n xs) (hB : B' ≤ B) : w.ownsRow B' e k v n xs := by
  refine ⟨h.1, ?_⟩
  rcases h.2 with h | ⟨g, cap, cur, rfl, hb, r⟩
  · exact Or.inl h
  · exact Or.inr ⟨g, cap, cur, rfl, by omega, r⟩
/-- what comes of reading -/
def Reads {α : Type} (p : Nat) (s : ByteArray) (r : cd.Rs α) (E : World → Value → α → Prop) (w : World) (e : Ending) (w' : World) : Prop :=
  w.grownBy w' (some p) ∧ match r with
    | .ok (x, a) => (∃ v, e = .returned v ∧ E w' v x) ∧ a ≤ s.size ∧ Rd p s a w'
    | .error c => 1 ≤ c ∧ e = refusal c
theorem Reads.cases {α : Type} {p : Nat} {s : ByteArray} {r : cd.Rs α} {E : World → Value → α → Prop} {w w' : World} {e : Ending} (h : Reads p s r E w e w') :
    (∃ x a v, r = .ok (x, a) ∧ e = .returned v ∧ E w' v x ∧ a ≤ s.size ∧ Rd p s a w' ∧ w.grownBy w' (some p)) ∨ (∃ c : Nat, r = .error c ∧ 1 ≤ c ∧ e = refusal c ∧ w.grownBy w' (some p)) := by
  obtain ⟨h1, h2⟩ := h
  cases r with
  | ok q => obtain ⟨⟨v, he, hE⟩, ha, hr⟩ := h2; exact Or.inl ⟨q.1, q.2, v, rfl, he, hE, ha, hr, h1⟩
  | error c => exact Or.inr ⟨c, rfl, h2.1, h2.2, h1⟩
theorem Reads.fail {α : Type} {p : Nat} {s : ByteArray} {r : cd.Rs α} {E : World → Value → α → Prop} {w w' : World} {c : Nat} (hg : w.grownBy w' (some p)) (hr : r = .error c) (hc : 1 ≤ c) : Reads p s r E w (refusal c) w' := by
  subst hr; exact ⟨hg, hc, rfl⟩
theorem Reads.done {α : Type} {p : Nat} {s : ByteArray} {r : cd.Rs α} {E : World → Value → α → Prop} {w w' : World} {x : α} {a : Nat} {v : Value} (hg : w.grownBy w' (some p)) (hr : r = .ok (x, a)) (hE : E w' v x) (ha : a ≤ s.size) (hd : Rd p s a w') : Reads p s r E w (.returned v) w' := by
  subst hr; exact ⟨hg, ⟨v, rfl, hE⟩, ha, hd⟩
theorem refuse_n (n : Int) (hn : n ≠ 0) (w : World) : Calls Try.prog 34 #[.int .i64 n] w fun e w' => e = refusal n ∧ w' = w := by
  have h1 : (n == 0) = false := beq_eq_false_iff_ne.2 hn
  have h2 : (n != 0) = true := by simp [bne, h1]
  go_enter Try.func34, Try.ntmps34
  go_wp2
  exact ⟨rfl, rfl, rfl⟩
theorem Rd.cells {p : Nat} {s : ByteArray} {a : Nat} {w : World} (h : Rd p s a w) : w.cell? ⟨p, 0, none⟩ = some (.string s) ∧ w.cell? ⟨p, 1, none⟩ = some (.int .i64 (a : Int)) ∧ w.frozen? ⟨p, 1, none⟩ = false ∧ p < w.heap.size := by
  unfold Rd at h
  exact ⟨by simp [World.cell?, h], by simp [World.cell?, h], by simp [World.frozen?, h], lt_of_block h⟩
theorem Rd.set {p : Nat} {s : ByteArray} {a b : Nat} {w : World} (h : Rd p s a w) : Rd p s b (w.setCell ⟨p, 1, none⟩ (.int .i64 (b : Int))) ∧ w.grownBy (w.setCell ⟨p, 1, none⟩ (.int .i64 (b : Int))) (some p) := by
  refine ⟨?_, ⟨rfl, rfl, rfl, by rw [World.size_setCell]; exact Nat.le_refl _, fun k _ hk => Below.heap_setCell _ _ _ _ (fun e => hk (by rw [e]))⟩⟩
  exact heap_setCell_same w p 1 _ _ _ h
theorem Rd.next {p : Nat} {s : ByteArray} {a : Nat} {w w' : World} (h : Rd p s a w) (hb : Below w.heap.size w w') : Rd p s a w' := (hb.block p (lt_of_block h)).trans h
theorem drew_below {w : World} (n : Nat) : Below w.heap.size w (w.drewN n) := below_drewN (Below.refl _ _) n

set_option maxHeartbeats 800000 in
set_option maxRecDepth 100000 in
theorem number_any (p : Nat) (s : ByteArray) (a : Nat) (w : World) (h : Rd p s a w) (hs : s.size ≤ 1099511627776) :
    Calls Try.prog 29 #[.pointer (some ⟨p, 0, none⟩)] w (Reads p s (cd.numR (kit.bytes s) a) (fun _ v n => v = .int .i64 (n : Int)) w) := by
  have HG : Hid (∀ W : World, Calls Try.prog 53 #[.string s, .int .i64 (a : Int)] W fun e w' => e = .returned (.tuple #[.int .i64 (vm.get (kit.bytes s) a).1, .int .i64 (vm.get (kit.bytes s) a).2.1, .int .i64 (vm.get (kit.bytes s) a).2.2]) ∧ w' = W) := fun W => (get_any s a W hs).mono fun e w' ⟨h1, h2⟩ => ⟨h1, h2.symm⟩
  obtain ⟨c0, c1, f1, hlt⟩ := h.cells
  have HD := Lib.hid h
  rcases cd.numR_cases (kit.bytes s) a (kit.bytes_lt s) with ⟨e, hg, h1, hr⟩ | ⟨n, k, hg, hn, hk, _, hl, hr⟩
  · rw [hg] at HG
    have HE := Lib.hid hr
    have HR : Hid (∀ W : World, Calls Try.prog 34 #[.int .i64 (e : Int)] W fun e' w' => e' = refusal e ∧ w' = W) := fun W => refuse_n _ (by omega) W
    clear hg hr h
    go_enter Try.func29, Try.ntmps29
    go_wp2
    go_quiet ((go_at_call 53; exact Calls.quiet_of_same (HG.out _)))
    go_wp2_with fail
    (with_reducible refine (HR.out _).mono ?_)
    rintro e w1 ⟨rfl, rfl⟩
    exact ⟨rfl, Reads.fail (grown_below' (drew_below _)) HE.out h1⟩
  · rw [hg] at HG
    have HE := Lib.hid hr
    rw [kit.bytes_len] at hl
    have HR : Hid (∀ W : World, Calls Try.prog 34 #[.int .i64 0] W fun e w' => e = .returned (.tuple #[]) ∧ w' = W) := refuse_ok
    clear hg hr h hk
    go_enter Try.func29, Try.ntmps29
    go_wp2
    go_quiet ((go_at_call 53; exact Calls.quiet_of_same (HG.out _)))
    go_wp2_with fail
    (with_reducible refine (HR.out _).mono ?_)
    rintro e w1 ⟨rfl, rfl⟩
    go_wp2
    go_ret
    have hd := HD.out.next (drew_below nq)
    exact Reads.done (grown_trans (grown_below' (drew_below nq)) (Rd.set hd).2) HE.out rfl hl (Rd.set hd).1

set_option maxHeartbeats 800000 in
set_option maxRecDepth 100000 in
theorem rtext_any (p : Nat) (s : ByteArray) (a : Nat) (w : World) (h : Rd p s a w) (hs : s.size ≤ 1099511627776) :
    Calls Try.prog 32 #[.pointer (some ⟨p, 0, none⟩)] w (Reads p s (cd.txtR (kit.bytes s) a) (fun _ v t => v = .string t ∧ t.size ≤ 4000) w) := by
  have HG : Hid (∀ W : World, Calls Try.prog 58 #[.string s, .int .i64 (a : Int)] W fun e w' => e = .returned (.tuple #[.string (kit.str (vm.getText (kit.bytes s) a).1), .int .i64 (vm.getText (kit.bytes s) a).2.1, .int .i64 (vm.getText (kit.bytes s) a).2.2]) ∧ w' = W) := fun W => (getText_any s a W hs).mono fun e w' ⟨h1, h2⟩ => ⟨h1, h2.symm⟩
  obtain ⟨c0, c1, f1, hlt⟩ := h.cells
  have HD := Lib.hid h
  rcases cd.txtR_cases (kit.bytes s) a (kit.bytes_lt s) with ⟨e, hg, h1, hr⟩ | ⟨t, n, b, _, hn, ht, hg, hl, _, hr⟩
  · rw [hg] at HG
    have HE := Lib.hid hr
    have HR : Hid (∀ W : World, Calls Try.prog 34 #[.int .i64 (e : Int)] W fun e' w' => e' = refusal e ∧ w' = W) := fun W => refuse_n _ (by omega) W
    clear hg hr h
    go_enter Try.func32, Try.ntmps32
    go_wp2
    go_quiet ((go_at_call 58; exact Calls.quiet_of_same (HG.out _)))
    go_wp2_with fail
    (with_reducible refine (HR.out _).mono ?_)
    rintro e w1 ⟨rfl, rfl⟩
    exact ⟨rfl, Reads.fail (grown_below' (drew_below _)) HE.out h1⟩
  · obtain ⟨k, hk⟩ : ∃ k, k = b + n := ⟨_, rfl⟩
    rw [← hk] at hg hl hr
    obtain ⟨T, hT⟩ : ∃ T, T = kit.str t := ⟨_, rfl⟩
    rw [hg] at HG
    simp only at HG
    rw [← hT] at HG hr
    have HE := Lib.hid hr
    have HTL : Hid (T.size ≤ 4000) := by
      show _ ≤ _
      rw [hT, kit.str_size, ht, List.length_take]; omega
    rw [kit.bytes_len] at hl
    have HR : Hid (∀ W : World, Calls Try.prog 34 #[.int .i64 0] W fun e w' => e = .returned (.tuple #[]) ∧ w' = W) := refuse_ok
    clear hg hr h hk hT ht
    go_enter Try.func32, Try.ntmps32
    go_wp2
    go_quiet ((go_at_call 58; exact Calls.quiet_of_same (HG.out _)))
    go_wp2_with fail
    (with_reducible refine (HR.out _).mono ?_)
    rintro e w1 ⟨rfl, rfl⟩
    go_wp2
    go_ret
    have hd := HD.out.next (drew_below nq)
    exact Reads.done (grown_trans (grown_below' (drew_below nq)) (Rd.set hd).2) HE.out ⟨rfl, HTL.out⟩ hl (Rd.set hd).1
end Go.Proofs.Ytghbkieflifegaa
