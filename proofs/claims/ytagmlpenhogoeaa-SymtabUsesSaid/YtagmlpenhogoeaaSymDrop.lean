/- symtab.Drop on a table as the calls make it; the law's same on equal tables. -/
import Derived.Test.YtagmlpenhogoeaaSymPut
namespace Go.Proofs.Ytagmlpenhogoeaa
open Go.RowKit Go.ChangeShapes cl

theorem tcells_set2 : ∀ (l : List tb.Sym) (j : Nat) (y : Int), (tcells l).set (j * 2 + 1) (.int .i64 y) = tcells (l.set j ((tb.at_ l j).1, y)) := by
  intro l
  induction l with
  | nil => intro j y; rfl
  | cons z l ih =>
    intro j y
    cases j with
    | zero => rfl
    | succ j =>
      have := ih j y
      have e : tb.at_ (z :: l) (j + 1) = tb.at_ l j := by simp [tb.at_]
      rw [List.set_cons_succ, e, tcells_cons, tcells_cons, ← this, Nat.succ_mul]
      rfl
theorem tcells_set1 : ∀ (l : List tb.Sym) (j : Nat) (x : ByteArray), (tcells l).set (j * 2) (.string x) = tcells (l.set j (x, (tb.at_ l j).2)) := by
  intro l
  induction l with
  | nil => intro j y; rfl
  | cons z l ih =>
    intro j y
    cases j with
    | zero => rfl
    | succ j =>
      have := ih j y
      have e : tb.at_ (z :: l) (j + 1) = tb.at_ l j := by simp [tb.at_]
      rw [List.set_cons_succ, e, tcells_cons, tcells_cons, ← this, Nat.succ_mul]
      rfl
def CloneP (L : List tb.Sym) (w : World) (e : Ending) (w' : World) : Prop := ∃ g c : Nat, e = .returned (.slice (some ⟨g, 0, none⟩) L.length c) ∧ w'.ownsRow w.heap.size 51 2 (.slice (some ⟨g, 0, none⟩) L.length c) L.length (tcells L) ∧ Below w.heap.size w w'
set_option maxHeartbeats 800000 in
set_option maxRecDepth 100000 in
theorem sclone_any (L : List tb.Sym) (b off cap : Nat) (w : World) (h : Tabs w w.heap.size (.slice (some ⟨b, off, none⟩) L.length cap) L) (hl : L.length ≤ 100000) (h0 : 0 < L.length) :
    Calls Try.prog 33 #[.slice (some ⟨b, off, none⟩) L.length cap] w (CloneP L w) := by
  have hb0 : Below w.heap.size w (w.alloc (.cells #[] 51)) := (Below.refl _ _).alloc (Nat.le_refl _) _
  have HN := Lib.hid (Cells.news (h.next hb0))
  have HO := Lib.hid (cl.own_none (w := w) (W := w) 51 (Nat.le_refl _) 2)
  have HTL : Hid ((tcells L).length = L.length * 2) := tcells_len L
  have HF : Hid (∀ v w', w'.ownsRow w.heap.size 51 2 v L.length (tcells L) → Below w.heap.size w w' → CloneP L w (.returned v) w') := fun v w' ho hb => by
    rcases ho.2 with ⟨rfl, hx⟩ | ⟨g, c, cur, rfl, hr⟩
    · have := tcells_len L
      rw [hx] at this
      simp at this; omega
    · exact ⟨g, c, rfl, ho, hb⟩
  obtain ⟨n, hn⟩ : ∃ n, n = L.length := ⟨_, rfl⟩
  rw [← hn] at HN HTL HF h0 hl ⊢
  clear hn h
  have q22 : ∀ (w : World) (a : Option Addr) (n c n' c' : Nat), (binOp .eql 22 (.slice a n c) (.slice none n' c')).run Try.prog w = .ok (.bool a.isNone) w := fun w a n c n' c' => Lib.run_eql_slice_nil w _ _ a n c n' c' Try.underlying22
  go_enter Try.func33, Try.ntmps33
  go_wp2_with (at_builtin; refine kit.appN (.tmp 5) (.tmp 6) 22 rfl rfl w.heap.size Try.underlying22 infoSym rfl (by decide) (by decide) HO.out rfl (tcells L) rfl HTL.out HN.out.1 HN.out.2 tcells_one (by omega) (by simp) ?_)
  intro v' w1 hown hb1
  have hbf := hb0.trans hb1
  have HO1 : Hid (w1.ownsRow w.heap.size 51 2 v' n (tcells L)) := by show World.ownsRow _ _ _ _ _ _ _; simpa using hown
  clear hown
  go_wp2
  go_ret
  exact HF.out _ _ HO1.out hbf

def DropP (c : Int) (vs : Value) (r : List tb.Sym × Int) (w : World) (e : Ending) (w' : World) : Prop :=
  ∃ (ao : Option Addr) (cap : Nat), e = .returned (.tuple #[.agg #[.slice ao r.1.length cap, .int .i64 c], .int .i64 r.2]) ∧ (vs = .slice ao r.1.length cap ∨ ∃ g, ao = some ⟨g, 0, none⟩ ∧ w.heap.size ≤ g) ∧ Tabs w' w'.heap.size (.slice ao r.1.length cap) r.1 ∧ Below w.heap.size w w'
theorem drop_tabs {w W : World} {g n cap : Nat} {e : TypeId} {c : Int} {L2 : List tb.Sym} (ho : W.ownsRow (w.heap.size + 2) e 2 (.slice (some ⟨g, 0, none⟩) n cap) n (tcells L2)) (hb : Below w.heap.size w W) :
    Tabs ((W.setCell ⟨w.heap.size + 1, 0, none⟩ (.slice (some ⟨g, 0, none⟩) n cap)).setCell ⟨w.heap.size + 1, 1, none⟩ (.int .i64 c))
      ((W.setCell ⟨w.heap.size + 1, 0, none⟩ (.slice (some ⟨g, 0, none⟩) n cap)).setCell ⟨w.heap.size + 1, 1, none⟩ (.int .i64 c)).heap.size (.slice (some ⟨g, 0, none⟩) n cap) L2 ∧ n = L2.length ∧
    Below w.heap.size w ((W.setCell ⟨w.heap.size + 1, 0, none⟩ (.slice (some ⟨g, 0, none⟩) n cap)).setCell ⟨w.heap.size + 1, 1, none⟩ (.int .i64 c)) := by
  have o3 := ownsRow_setCell_below ho (a := ⟨w.heap.size + 1, 0, none⟩) (show w.heap.size + 1 < w.heap.size + 2 by omega) (.slice (some ⟨g, 0, none⟩) n cap)
  have o4 := ownsRow_setCell_below o3 (a := ⟨w.heap.size + 1, 1, none⟩) (show w.heap.size + 1 < w.heap.size + 2 by omega) (.int .i64 c)
  have hn : n = L2.length := by
    have := o4.1
    rw [tcells_len] at this; omega
  refine ⟨?_, hn, set2 hb _ _⟩
  have := Cells.own o4
  unfold Tabs
  rw [← hn]; exact this

set_option maxHeartbeats 6400000 in
set_option maxRecDepth 100000 in
theorem drop_right (c id : Int) (L : List tb.Sym) (vs : Value) (w : World) (hr : tb.Right c L) (h : Tabs w w.heap.size vs L) :
    Calls Try.prog 12 #[.agg #[vs, .int .i64 c], .int .i64 id] w (DropP c vs (tb.drop L id) w) := by
  have HRT : Hid (∀ W, Below w.heap.size w W → Calls Try.prog 20 #[.agg #[vs, .int .i64 c]] W (Said true W)) := fun W hW => symright_true c L vs W hr ((h.below hW).mono hW.size)
  have HUS : Hid (∀ W, Below w.heap.size w W → Calls Try.prog 32 #[.agg #[vs, .int .i64 c], .int .i64 id] W (Said (tb.used L id) W)) := fun W hW => used_any c id L vs W ((h.below hW).mono hW.size)
  have HD : Hid (tb.used L id = true → 0 ≤ id ∧ id < (L.length : Int) ∧ 0 < (tb.at_ L id.toNat).2) := fun hu => by
    unfold tb.used at hu
    exact of_decide_eq_true hu
  obtain ⟨q0, hq0⟩ : ∃ q, q = L.length := ⟨_, rfl⟩
  obtain ⟨ao, cap, rfl⟩ : ∃ ao cap, vs = .slice ao q0 cap := by
    obtain ⟨ao, cap, e, _⟩ := h.form
    exact ⟨ao, cap, by rw [hq0]; exact e⟩
  have HC : Hid (∀ W, Below w.heap.size w W → Tabs W W.heap.size (.slice ao q0 cap) L) := fun W hW => (h.below hW).mono hW.size
  have HSAM : Hid (∀ W, Below w.heap.size w W → ∀ e2 : Int, tb.drop L id = (L, e2) → DropP c (.slice ao q0 cap) (tb.drop L id) w (.returned (.tuple #[.agg #[.slice ao q0 cap, .int .i64 c], .int .i64 e2])) W) := fun W hW e2 he => by
    rw [he]
    exact ⟨ao, cap, by rw [← hq0], Or.inl (by rw [← hq0]), by show Tabs _ _ _ _; rw [← hq0]; exact HC.out W hW, hW⟩
  have HCL : Hid (∀ (b off : Nat) W, 0 < q0 → ao = some ⟨b, off, none⟩ → Below w.heap.size w W → Calls Try.prog 33 #[.slice (some ⟨b, off, none⟩) q0 cap] W (CloneP L W)) := fun b off W h0 hao hW => by
    have ht := HC.out W hW
    rw [hao, hq0] at ht
    rw [hq0]
    exact sclone_any L b off cap W ht (by have := hr.1; have := hr.2.1; have := hr.2.2.1; omega) (by omega)
  have HQ := Lib.hid hq0
  have HR := Lib.hid hr
  have hA0 : Below (w.heap.size + 2) ((w.alloc (.cells #[.slice ao q0 cap, .int .i64 c] 24)).alloc (.cells #[.slice none 0 0, .int .i64 0] 24)) ((w.alloc (.cells #[.slice ao q0 cap, .int .i64 c] 24)).alloc (.cells #[.slice none 0 0, .int .i64 0] 24)) := Below.refl _ _
  obtain ⟨_, _, _, _, _, _, _, hA⟩ := boxes2 hA0
  have HR1 := Lib.hid (HRT.out _ hA)
  obtain ⟨PT, hPT⟩ : ∃ P, P = tb.drop L id := ⟨_, rfl⟩
  have HPT := Lib.hid hPT
  rw [← hPT] at HSAM ⊢
  have HPD : Hid (PT = if tb.used L id = true then (L.set id.toNat (if (tb.at_ L id.toNat).2 = 1 then .empty else (tb.at_ L id.toNat).1, (tb.at_ L id.toNat).2 - 1), 0) else (L, 5)) := hPT
  rw [← hq0] at HD
  obtain ⟨U, hU⟩ : ∃ U, U = tb.used L id := ⟨_, rfl⟩
  rw [← hU] at HUS HD HPD
  clear h hq0 hA0 hPT HRT hr hU HPT
  go_enter Try.func12, Try.ntmps12
  go_wp2_with fail
  (with_reducible refine HR1.out.mono ?_)
  rintro e w1 ⟨rfl, hb1⟩
  have hbW1 : Below (w.heap.size + 2) ((w.alloc (.cells #[.slice ao q0 cap, .int .i64 c] 24)).alloc (.cells #[.slice none 0 0, .int .i64 0] 24)) w1 := hb1.mono (by simp)
  obtain ⟨a0, a1, b0, b1, f0, f1, hz, hbl1⟩ := boxes2 hbW1
  have HU1 := Lib.hid (HUS.out _ hbl1)
  go_wp2_with fail
  (with_reducible refine HU1.out.mono ?_)
  rintro e w2 ⟨rfl, hb2⟩
  have hbW2 := hbW1.trans (hb2.mono (by omega))
  obtain ⟨a0, a1, b0, b1, f0, f1, hz, hbl2⟩ := boxes2 hbW2
  by_cases hu : U = true
  case neg =>
    obtain rfl : U = false := by simpa using hu
    have HS : Hid (PT = (L, 5)) := by show _ = _; rw [HPD.out, if_neg (by decide)]
    have HSA := Lib.hid (HSAM.out _ (set2 hbl2 (.slice ao q0 cap) (.int .i64 c)) 5 HS.out)
    clear hu
    go_wp2
    exact bodyPost_ret (v := .tuple #[.agg #[.slice ao q0 cap, .int .i64 c], .int .i64 5]) (by simp [results, Try.results12, go_sem, b0, b1]) rfl HSA.out
  subst hu
  obtain ⟨h0, h1, h2⟩ := HD.out rfl
  obtain ⟨k, rfl⟩ : ∃ k : Nat, id = (k : Int) := ⟨id.toNat, by omega⟩
  rw [Int.toNat_natCast] at h2 HPD
  have hk : k < q0 := by omega
  have HRI := Lib.hid (HR.out.2.2.2.1 k (by rw [← HQ.out]; exact hk))
  obtain ⟨b, off, rfl, hB, _, _⟩ := Tabs.get (HC.out _ hbl2) HQ.out hk
  have HCW := Lib.hid (HCL.out b off w2 (by omega) rfl hbl2)
  obtain ⟨⟨x, r⟩, hx⟩ : ∃ x, x = tb.at_ L k := ⟨_, rfl⟩
  have HX := Lib.hid hx
  rw [← hx] at HRI HPD h2
  obtain ⟨hr0, hr1, _, _⟩ := HRI.out
  simp only at hr0 hr1 HPD h2
  clear hx HD HSAM HCL HUS
  go_wp2_with fail
  (with_reducible refine HCW.out.mono ?_)
  rintro e w3 ⟨g, cc, rfl, ho3, hb3⟩
  have ho3' := Joins.ownsRow_le ho3 hz
  have HO3 : Hid (w3.ownsRow (w.heap.size + 2) 51 2 (.slice (some ⟨g, 0, none⟩) q0 cc) q0 (tcells L)) := by
    show World.ownsRow _ _ _ _ _ _ _
    rw [HQ.out]; exact ho3'
  have hbW3 := hbW2.trans (hb3.mono (by omega))
  obtain ⟨a0, a1, b0, b1, f0, f1, hz, hbl3⟩ := boxes2 hbW3
  obtain ⟨s0, s1, t0, t1, hbg⟩ := own_spot HO3.out (by rw [← HQ.out]; exact hk)
  rw [← HX.out] at s0 s1
  simp only at s0 s1
  obtain ⟨o1, hbo1⟩ := kit.own_set (j := k * 2 + 1) (u := .int .i64 (r - 1)) HO3.out
  rw [tcells_set2, ← HX.out] at o1
  have HGE : Hid (w.heap.size ≤ g) := by show _ ≤ _; omega
  have hgne : ¬ g = w.heap.size + 1 := by omega
  have hgne2 : ¬ w.heap.size + 1 = g := by omega
  have hkI : (k : Int) < (q0 : Int) := by omega
  have HLEN : Hid (L.length = q0) := HQ.out.symm
  rw [← HQ.out]
  clear ho3 ho3'
  by_cases hr1' : r = 1
  · subst hr1'
    obtain ⟨o2, hbo2⟩ := kit.own_set (j := k * 2) (u := .string ⟨#[]⟩) o1
    rw [tcells_set1] at o2
    have HL2 : Hid ((L.set k (x, 1 - 1)).set k (⟨#[]⟩, (tb.at_ (L.set k (x, 1 - 1)) k).2) = L.set k (⟨#[]⟩, 0)) := by
      show _ = _
      rw [List.set_set, tb.at_set (by rw [← HQ.out]; exact hk), if_pos rfl]; rfl
    have o3 := HL2.out ▸ o2
    obtain ⟨hT, hn, hBE⟩ := drop_tabs (c := c) o3 ((hbl3.trans (hbo1.mono (by omega))).trans (hbo2.mono (by omega)))
    have HPF : Hid (PT = (L.set k (⟨#[]⟩, 0), 0)) := by show _ = _; rw [HPD.out, if_pos trivial, if_pos rfl]; rfl
    have HN := Lib.hid hn
    have HT := Lib.hid hT
    have HBE := Lib.hid hBE
    clear hT hBE o1 o2 o3 hn hbo1 hbo2
    go_wp2
    refine bodyPost_ret (v := .tuple #[.agg #[.slice (some ⟨g, 0, none⟩) q0 cc, .int .i64 c], .int .i64 0]) (by simp [results, Try.results12, go_sem, b0, b1]) rfl ⟨some ⟨g, 0, none⟩, cc, by rw [HPF.out]; show _ = Ending.returned (.tuple #[.agg #[.slice _ (L.set k (⟨#[]⟩, 0)).length cc, _], _]); rw [← HN.out], Or.inr ⟨g, rfl, HGE.out⟩, ?_, HBE.out⟩
    show Tabs _ _ _ _
    rw [HPF.out]
    show Tabs _ _ (.slice _ (L.set k (⟨#[]⟩, 0)).length cc) _
    rw [← HN.out]
    exact HT.out
  · obtain ⟨hT, hn, hBE⟩ := drop_tabs (c := c) o1 (hbl3.trans (hbo1.mono (by omega)))
    have HPF : Hid (PT = (L.set k (x, r - 1), 0)) := by show _ = _; rw [HPD.out, if_pos trivial, if_neg hr1']
    have HN := Lib.hid hn
    have HT := Lib.hid hT
    have HBE := Lib.hid hBE
    have hrb : (r - 1 == 0) = false := by simp; omega
    clear hT hBE o1 hn hbo1
    go_wp2
    refine bodyPost_ret (v := .tuple #[.agg #[.slice (some ⟨g, 0, none⟩) q0 cc, .int .i64 c], .int .i64 0]) (by simp [results, Try.results12, go_sem, b0, b1]) rfl ⟨some ⟨g, 0, none⟩, cc, by rw [HPF.out]; show _ = Ending.returned (.tuple #[.agg #[.slice _ (L.set k (x, r - 1)).length cc, _], _]); rw [← HN.out], Or.inr ⟨g, rfl, HGE.out⟩, ?_, HBE.out⟩
    show Tabs _ _ _ _
    rw [HPF.out]
    show Tabs _ _ (.slice _ (L.set k (x, r - 1)).length cc) _
    rw [← HN.out]
    exact HT.out
end Go.Proofs.Ytagmlpenhogoeaa
