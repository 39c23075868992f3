/- codec: the writer in its variable; refuse. -/
import Derived.Test.YtpgccfgldjeomaaRows
import Derived.Test.YtpgccfgldjeomaaCdMath
import Derived.Test.YtpgccfgldjeomaaApp
import Derived.Test.YtpgccfgldjeomaaRowsAt
import Derived.Test.YtpgccfgldjeomaaPutText
import Derived.OneCell
namespace Go.Proofs.Ytpgccfgldjeomaa
open Go.RowKit Go.ChangeShapes

/-- a block that whoever writes does not touch -/
def Safe (B p : Nat) (w : World) (q : Nat) : Prop := q < w.heap.size ∧ (q < B ∨ (q ≠ p ∧ ∀ cur fr, w.heap[q]? ≠ some (.cells cur 5 fr)))
/-- the writer's variable at p: pre was written -/
def Wr (B p : Nat) (pre : List Nat) (w : World) : Prop := B ≤ p ∧ ∃ v, w.heap[p]? = some (.cells #[v] 65 (0, 0)) ∧ w.ownsRow B 5 1 v pre.length (kit.u8s pre)
structure Kp (B p : Nat) (w w' : World) : Prop where
  os : w'.os = w.os
  tape : w'.tape = w.tape
  output : w'.output = w.output
  size : w.heap.size ≤ w'.heap.size
  keep : ∀ q, Safe B p w q → w'.heap[q]? = w.heap[q]?
theorem Kp.refl (B p : Nat) (w : World) : Kp B p w w := ⟨rfl, rfl, rfl, Nat.le_refl _, fun _ _ => rfl⟩
theorem Kp.safe {B p : Nat} {w w' : World} (h : Kp B p w w') {q : Nat} (hq : Safe B p w q) : Safe B p w' q :=
  ⟨Nat.lt_of_lt_of_le hq.1 h.size, hq.2.imp id fun ⟨a, b⟩ => ⟨a, fun cur fr => by rw [h.keep q hq]; exact b cur fr⟩⟩
theorem Kp.trans {B p : Nat} {w w1 w2 : World} (h : Kp B p w w1) (h2 : Kp B p w1 w2) : Kp B p w w2 :=
  ⟨h2.os.trans h.os, h2.tape.trans h.tape, h2.output.trans h.output, Nat.le_trans h.size h2.size, fun q hq => (h2.keep q (h.safe hq)).trans (h.keep q hq)⟩
section
variable {B p : Nat} {pre : List Nat} {w w' : World}
theorem Wr.lt (h : Wr B p pre w) : p < w.heap.size := by
  obtain ⟨_, v, h1, _⟩ := h
  exact lt_of_block h1
theorem Wr.safe (h : Wr B p pre w) {q : Nat} (hq : q < B) : Safe B p w q := by
  have hl := h.lt
  have hB := h.1
  exact ⟨by omega, Or.inl hq⟩
theorem Kp.below (h : Kp B p w w') (hw : Wr B p pre w) : Below B w w' := ⟨h.os, h.tape, h.output, h.size, fun k hk => h.keep k (hw.safe hk)⟩
theorem Kp.cell (h : Kp B p w w') {q : Nat} (hq : Safe B p w q) (i : Nat) : w'.cell? ⟨q, i, none⟩ = w.cell? ⟨q, i, none⟩ := World.cell?_of_block (h.keep q hq)
theorem Kp.frozen (h : Kp B p w w') {q : Nat} (hq : Safe B p w q) (i : Nat) : w'.frozen? ⟨q, i, none⟩ = w.frozen? ⟨q, i, none⟩ := World.frozen?_of_block (h.keep q hq)
/-- what only lays anew keeps it -/
theorem Kp.of_below (h : Below w.heap.size w w') : Kp B p w w' := ⟨h.os, h.tape, h.output, h.size, fun q hq => h.block q hq.1⟩
theorem Wr.step (h : Wr B p pre w) (hb : Below w.heap.size w w') : Wr B p pre w' := by
  have hl := h.lt
  obtain ⟨hB, v, h1, h2⟩ := h
  exact ⟨hB, v, (hb.block p hl).trans h1, own_stay h2 hb⟩
/-- a new block of other cells is not touched either -/
theorem Wr.fresh (h : Wr B p pre w) (cs : Array Value) {t : TypeId} (ht : t ≠ 5) : Safe B p (w.alloc (.cells cs t)) w.heap.size := by
  have hl := h.lt
  refine ⟨by simp, Or.inr ⟨by omega, fun cur fr e => ?_⟩⟩
  rw [heap_alloc_new] at e
  simp only [Option.some.injEq, Obj.cells.injEq] at e
  exact ht e.2.1
theorem Wr.apart {v : Value} {n : Nat} {xs : List Value} (h1 : w.heap[p]? = some (.cells #[v] 65 (0, 0))) (h2 : w.ownsRow B 5 1 v n xs) : some p ≠ v.ownBlock := by
  intro e
  rcases h2.2 with ⟨rfl, _⟩ | ⟨g, cap, cur, rfl, _, hgb, _⟩
  · cases e
  · obtain rfl : p = g := Option.some.inj e
    rw [h1] at hgb
    simp only [Option.some.injEq, Obj.cells.injEq] at hgb
    exact absurd hgb.2.1 (by decide)
theorem own_slice {k n : Nat} {e : TypeId} {v : Value} {xs : List Value} (h : w.ownsRow B e k v n xs) : ∃ ao m c, v = .slice ao m c := by
  rcases h.2 with ⟨rfl, _⟩ | ⟨g, cap, cur, rfl, _⟩
  · exact ⟨_, _, _, rfl⟩
  · exact ⟨_, _, _, rfl⟩
/-- behind the append, stored -/
theorem Wr.store {v v' : Value} {b : List Nat} {w1 : World} (hB : B ≤ p) (h1 : w.heap[p]? = some (.cells #[v] 65 (0, 0))) (h2 : w.ownsRow B 5 1 v pre.length (kit.u8s pre))
    (hown : w1.ownsRow B 5 1 v' (pre.length + b.length) (kit.u8s (pre ++ b))) (hg : w.grownBy w1 v.ownBlock) : Wr B p (pre ++ b) (w1.setCell ⟨p, 0, none⟩ v') ∧ Kp B p w (w1.setCell ⟨p, 0, none⟩ v') := by
  rw [← List.length_append] at hown
  have hl := lt_of_block h1
  have hvp : some p ≠ v.ownBlock := by
    intro e
    rcases h2.2 with ⟨rfl, _⟩ | ⟨g, cap, cur, rfl, _, hgb, _⟩
    · cases e
    · obtain rfl : p = g := Option.some.inj e
      rw [h1] at hgb
      simp only [Option.some.injEq, Obj.cells.injEq] at hgb
      exact absurd hgb.2.1 (by decide)
  have h1' : w1.heap[p]? = some (.cells #[v] 65 (0, 0)) := (hg.block p hl hvp).trans h1
  have hv'p : v'.ownBlock ≠ some p := by
    intro e
    rcases hown.2 with ⟨rfl, _⟩ | ⟨g, cap, cur, rfl, _, hgb, _⟩
    · cases e
    · obtain rfl : g = p := Option.some.inj e
      rw [h1'] at hgb
      simp only [Option.some.injEq, Obj.cells.injEq] at hgb
      exact absurd hgb.2.1 (by decide)
  refine ⟨⟨hB, v', one_setCell (u := v') h1', ownsRow_setCell_other hown (a := ⟨p, 0, none⟩) hv'p v'⟩, ?_⟩
  refine ⟨hg.os, hg.tape, hg.output, by rw [World.size_setCell]; exact hg.size, fun q hq => ?_⟩
  have hqp : q ≠ p := by
    rcases hq.2 with h | h
    · omega
    · exact h.1
  refine (Below.heap_setCell _ _ _ _ hqp).trans (hg.block q hq.1 (fun e => ?_))
  have := h2.lt q e.symm
  rcases hq.2 with h | h
  · omega
  · rcases h2.2 with ⟨rfl, _⟩ | ⟨g, cap, cur, rfl, _, hgb, _⟩
    · cases e
    · obtain rfl : q = g := Option.some.inj e
      exact h.2 _ _ hgb
end
abbrev refusal (n : Int) : Ending := .panicked [{ v := .iface 80 (.agg #[.int .i64 n]), recovered := false }]
/-- what comes of writing t -/
def Wrote (B p : Nat) (pre : List Nat) (t : cd.W) (w : World) (e : Ending) (w' : World) : Prop :=
  Kp B p w w' ∧ match t with
    | some b => e = .returned (.tuple #[]) ∧ Wr B p (pre ++ b) w'
    | none => e = refusal 1
theorem refuse_ok (w : World) : Calls Try.prog 40 #[.int .i64 0] w fun e w' => e = .returned (.tuple #[]) ∧ w' = w := by
  go_enter Try.func40, Try.ntmps40
  go_wp2
  go_end0
  exact ⟨rfl, rfl⟩
theorem refuse_1 (w : World) : Calls Try.prog 40 #[.int .i64 1] w fun e w' => e = refusal 1 ∧ w' = w := by
  go_enter Try.func40, Try.ntmps40
  go_wp2
  exact ⟨rfl, rfl, rfl⟩

set_option maxRecDepth 100000 in
theorem text_any (B p : Nat) (pre : List Nat) (s : ByteArray) (w : World) (hw : Wr B p pre w) (hs : s.size ≤ maxLen) (hl : pre.length + 4006 ≤ 1099511627776) :
    Calls Try.prog 34 #[.pointer (some ⟨p, 0, none⟩), .string s] w (Wrote B p pre (cd.txt s) w) := by
  by_cases h4 : 4000 < s.size
  · have HP := Lib.hid (putText_long s w hs h4)
    have HT : Hid (cd.txt s = none) := if_pos h4
    have HR : Hid (∀ W : World, Calls Try.prog 40 #[.int .i64 1] W fun e w' => e = refusal 1 ∧ w' = W) := refuse_1
    clear h4 hs
    go_enter Try.func34, Try.ntmps34
    go_wp2_with fail
    (with_reducible refine HP.out.mono ?_)
    rintro e w1 ⟨rfl, rfl⟩
    go_wp2_with fail
    (with_reducible refine (HR.out _).mono ?_)
    rintro e w2 ⟨rfl, rfl⟩
    refine ⟨rfl, Kp.refl _ _ _, ?_⟩
    rw [HT.out]
  · obtain ⟨T, hT⟩ : ∃ T, T = vm.enc s.size ++ kit.bytes s := ⟨_, rfl⟩
    have HT : Hid (cd.txt s = some T) := by show _ = _; rw [hT]; exact if_neg h4
    have hTl := cd.txt_len HT.out
    have hTb := cd.txt_byte _ HT.out
    have HTb := Lib.hid hTb
    have HP : Hid (Calls Try.prog 45 #[.string s] w fun e w' => e = .returned (.tuple #[.string (kit.str T), .int .i64 0]) ∧ Below w.heap.size w w') := by
      have := putText_ok s w (by omega)
      unfold PutTextOk at this
      rw [hT, kit.str_app, kit.str_bytes]
      exact this
    clear hT h4 hs hTb
    go_enter Try.func34, Try.ntmps34
    go_wp2_with fail
    (with_reducible refine HP.out.mono ?_)
    rintro e w1 ⟨rfl, b1⟩
    have hw1 := hw.step b1
    have K1 := Kp.of_below (B := B) (p := p) b1
    clear hw b1
    obtain ⟨hB, v, hv, hown⟩ := hw1
    have hc := cell_of_one hv
    have hf := free_of_one hv
    have hlt := lt_of_block hv
    have HV := Lib.hid hv
    clear hv
    go_wp2_with (at_builtin; refine appS (.tmp 18) (.tmp 19) 63 9 rfl rfl B Try.underlying63 Try.underlying9 infoU8 hown rfl (m := T) rfl HTb.out (by omega) (by omega) ?_)
    intro v' w2 hown2 hg
    have R := Wr.store hB HV.out hown hown2 hg
    have HR : Hid (Wrote B p pre (cd.txt s) w (.returned (.tuple #[])) (w2.setCell ⟨p, 0, none⟩ v')) := by
      refine ⟨K1.trans R.2, ?_⟩
      rw [HT.out]
      exact ⟨rfl, R.1⟩
    have hpb : some p ≠ v.ownBlock := Wr.apart HV.out hown
    have hc2 := (hg.cell (a := ⟨p, 0, none⟩) hc hpb)
    have hf2 : w2.frozen? ⟨p, 0, none⟩ = false := (World.frozen?_of_block (a := ⟨p, 0, none⟩) (hg.block p hlt hpb)).trans hf
    obtain ⟨o2, n2, c2, rfl⟩ := own_slice hown2
    clear hown2 hown hg R K1 HV hc hf
    go_wp2
    go_end0
    exact HR.out

theorem each_split {l : List Int} {k : Nat} (hk : k < l.length) {a : List Nat} (ha : cd.each cd.num (l.take k) = some a) : cd.each cd.num (l.take (k + 1)) = cd.app (some a) (cd.num (l.getD k 0)) ∧ (cd.num (l.getD k 0) = none → cd.each cd.num l = none) := by
  have e : l.getD k 0 = l[k] := by simp [List.getD, hk]
  have e1 : ∀ x, cd.each cd.num [x] = cd.num x := fun x => cd.app_nil _
  refine ⟨?_, fun hn => ?_⟩
  · rw [List.take_succ_eq_append_getElem hk, cd.each_app, ha, e1, e]
  · rw [← List.take_append_drop (k + 1) l, cd.each_app, List.take_succ_eq_append_getElem hk, cd.each_app, e1, ← e, hn, cd.app_none, cd.none_app]

set_option maxHeartbeats 800000 in
set_option maxRecDepth 100000 in
theorem numbers_any (B p : Nat) (pre : List Nat) (l : List Int) (g n : Nat) (w : World) (hw : Wr B p pre w) (hn : n = l.length) (hn1 : n ≤ 100) (hg : Safe B p w g) (hgc : ∀ j, j < n → w.cell? ⟨g, j, none⟩ = some (.int .i64 (l.getD j 0))) (hl : pre.length + n * 6 ≤ 1099511627776) :
    Calls Try.prog 31 #[.pointer (some ⟨p, 0, none⟩), .slice (some ⟨g, 0, none⟩) n n] w (Wrote B p pre (cd.each cd.num l) w) := by
  have HW := Lib.hid hw
  have HG := Lib.hid hg
  have HN := Lib.hid hn
  have HC := Lib.hid hgc
  have HR1 : Hid (∀ W : World, Calls Try.prog 40 #[.int .i64 1] W fun e w' => e = refusal 1 ∧ w' = W) := refuse_1
  have HR0 : Hid (∀ W : World, Calls Try.prog 40 #[.int .i64 0] W fun e w' => e = .returned (.tuple #[]) ∧ w' = W) := refuse_ok
  clear hn hg hgc hw
  go_enter Try.func31, Try.ntmps31
  go_wp2
  go_loopw [10, 30] (fun i _ wr => ∃ (k : Nat) (a : List Nat), i = .int .i64 k ∧ k ≤ n ∧ a.length ≤ k * 6 ∧ Hid (cd.each cd.num (l.take k) = some a) ∧ Hid (Wr B p (pre ++ a) wr) ∧ Hid (Kp B p w wr)) (fun i _ _ => n - (intOf i).toNat)
  case atStart => exact ⟨0, [], rfl, by omega, by simp, rfl, by show Wr _ _ _ _; rw [List.append_nil]; exact HW.out, Kp.refl _ _ _⟩
  case round =>
    obtain ⟨k, a, rfl, hk, hak, HA, HWr, HK⟩ := hrel
    by_cases hlt : k < n
    · have hcell := (HK.out.cell HG.out k).trans (HC.out k hlt)
      have hkI : (k : Int) < (n : Int) := by omega
      have hS := each_split (l := l) (k := k) (by rw [← HN.out]; exact hlt) HA.out
      obtain ⟨x, hx⟩ : ∃ x, x = l.getD k 0 := ⟨_, rfl⟩
      rw [← hx] at hcell hS
      by_cases hbad : x < 0 ∨ 1099511627776 < x
      · have HE : Hid (cd.each cd.num l = none) := hS.2 (cd.num_bad hbad)
        have HP := Lib.hid (put_bad x wr hbad)
        clear hbad hS hx
        go_wp2_with fail
        (with_reducible refine HP.out.mono ?_)
        rintro e w1 ⟨rfl, rfl⟩
        go_wp2_with fail
        (with_reducible refine (HR1.out _).mono ?_)
        rintro e w2 ⟨rfl, rfl⟩
        refine ⟨rfl, HK.out, ?_⟩
        rw [HE.out]
      · obtain ⟨m, rfl⟩ : ∃ m : Nat, x = (m : Int) := ⟨x.toNat, by omega⟩
        have hm : m ≤ 1099511627776 := by omega
        obtain ⟨T, hT⟩ : ∃ T, T = vm.enc m := ⟨_, rfl⟩
        have hnum : cd.num (m : Int) = some T := by rw [hT]; exact cd.num_ok hm
        have hTl := cd.num_len hnum
        have HTb := Lib.hid (cd.num_byte _ hnum)
        have HA' : Hid (cd.each cd.num (l.take (k + 1)) = some (a ++ T)) := by show _ = _; rw [hS.1, hnum, cd.app_some]
        have HP : Hid (Calls Try.prog 39 #[.int .i64 (m : Int)] wr fun e w' => e = .returned (.tuple #[.string (kit.str T), .int .i64 0]) ∧ Below wr.heap.size wr w') := by
          have := put_ok m wr hm
          unfold PutOk at this
          rw [hT]; exact this
        clear hT hS hx hbad hnum hm
        go_wp2_with fail
        (with_reducible refine HP.out.mono ?_)
        rintro e w1 ⟨rfl, b1⟩
        have hw1 := HWr.out.step b1
        have K1 := HK.out.trans (Kp.of_below (B := B) (p := p) b1)
        clear b1
        go_wp2_with fail
        (with_reducible refine (HR0.out _).mono ?_)
        rintro e w2 ⟨rfl, rfl⟩
        obtain ⟨hB, v, hv, hown⟩ := hw1
        have hc := cell_of_one hv
        have hf := free_of_one hv
        have hlt1 := lt_of_block hv
        have HV := Lib.hid hv
        have hpl : (pre ++ a).length + T.length ≤ 140737488355328 := by rw [List.length_append]; omega
        clear hv
        go_wp2_with (at_builtin; refine appS (.tmp 25) (.tmp 26) 63 9 rfl rfl B Try.underlying63 Try.underlying9 infoU8 hown rfl (m := T) rfl HTb.out hpl (by omega) ?_)
        intro v' w2 hown2 hg
        replace hown2 : w2.ownsRow B 5 1 v' ((pre ++ a).length + T.length) (kit.u8s ((pre ++ a) ++ T)) := by simpa [List.append_assoc, Nat.add_assoc] using hown2
        have R := Wr.store hB HV.out hown hown2 hg
        have HW' : Hid (Wr B p (pre ++ (a ++ T)) (w2.setCell ⟨p, 0, none⟩ v')) := by show Wr _ _ _ _; rw [← List.append_assoc]; exact R.1
        have HK' : Hid (Kp B p w (w2.setCell ⟨p, 0, none⟩ v')) := K1.trans R.2
        have hpb : some p ≠ v.ownBlock := Wr.apart HV.out hown
        have hc2 := (hg.cell (a := ⟨p, 0, none⟩) hc hpb)
        have hf2 : w2.frozen? ⟨p, 0, none⟩ = false := (World.frozen?_of_block (a := ⟨p, 0, none⟩) (hg.block p hlt1 hpb)).trans hf
        obtain ⟨o2, n2, c2, rfl⟩ := own_slice hown2
        clear hown2 hown hg R K1 HV hc hf hpl
        go_wp2
        go_roundw
        case rel => exact ⟨k + 1, a ++ T, by go_num, by omega, by rw [List.length_append]; omega, HA', HW', HK'⟩
        case measure => simp [intOf]; omega
    · have HE : Hid (cd.each cd.num l = some a) := by
        show _ = _
        have := HA.out
        rwa [List.take_of_length_le (by rw [← HN.out]; omega)] at this
      go_wp2
      go_end0
      refine ⟨HK.out, ?_⟩
      rw [HE.out]
      exact ⟨rfl, HWr.out⟩
end Go.Proofs.Ytpgccfgldjeomaa
