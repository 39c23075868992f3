/- codec's law: messages in memory; dots, contexts compared. -/
import Derived.Test.YtghbkieflifegaaCdRead
namespace Go.Proofs.Ytghbkieflifegaa
open Go.RowKit Go.ChangeShapes cl

def Said (x : Bool) (w : World) (e : Ending) (w' : World) : Prop := e = .returned (.bool x) ∧ Below w.heap.size w w'
/-- a message in its sixteen cells -/
def msgRel : Rel cd.Msg := fun w B c m => ∃ ae ne ce aa na ca p1 m1 k1 p2 m2 k2 p3 m3 k3 p4 m4 k4 sa sn sc,
  c = [.int .i64 m.k, .int .i64 m.f, .int .i64 m.to, .int .i64 m.g, .int .i64 m.n, .slice ae ne ce, .slice aa na ca, .slice p1 m1 k1, .slice p2 m2 k2, .slice p3 m3 k3, .slice p4 m4 k4, .int .i64 m.ki, .string m.mn, .string m.mv, .slice sa sn sc, .int .i64 m.er] ∧
  RowsAt 5 entR w B (.slice ae ne ce) m.e ∧ RowsAt 2 dotR w B (.slice aa na ca) m.al ∧ RowsAt 2 dotR w B (.slice p1 m1 k1) m.dv ∧ RowsAt 2 dotR w B (.slice p2 m2 k2) m.dc ∧ RowsAt 2 dotR w B (.slice p3 m3 k3) m.v ∧ RowsAt 2 dotR w B (.slice p4 m4 k4) m.c ∧ m.mn.size ≤ maxLen ∧ m.mv.size ≤ maxLen ∧ RowsAt 1 strR w B (.slice sa sn sc) m.s
theorem msgRel_steady : Steady msgRel := by
  rintro w w' B B' c m ⟨ae, ne, ce, aa, na, ca, p1, m1, k1, p2, m2, k2, p3, m3, k3, p4, m4, k4, sa, sn, sc, hc, h1, h2, h3, h4, h5, h6, h7, h8, h9⟩ hb hB
  exact ⟨ae, ne, ce, aa, na, ca, p1, m1, k1, p2, m2, k2, p3, m3, k3, p4, m4, k4, sa, sn, sc, hc, h1.below entR_steady hb hB, h2.below dotR_steady hb hB, h3.below dotR_steady hb hB, h4.below dotR_steady hb hB, h5.below dotR_steady hb hB, h6.below dotR_steady hb hB, h7, h8, h9.below strR_steady hb hB⟩
theorem RowsO.at {α : Type} {B k : Nat} {T : TypeId} {R : RelO α} {R' : Rel α} {w : World} {v : Value} {l : List α} (h : RowsO B T k R w v l) (hR : ∀ c x, R w c x → R' w w.heap.size c x) : RowsAt k R' w w.heap.size v l := by
  obtain ⟨cs, h0, h1, h2⟩ := h
  exact RowsAt.own rfl h0 (fun j c x hc hx => ⟨(h1 j c x hc hx).1, hR c x (h1 j c x hc hx).2⟩) h2
theorem ent_at {w : World} (c : List Value) (x : cd.Ent) (h : entO w c x) : entR w w.heap.size c x := by
  obtain ⟨ao, n, cap, hc, hs, hr⟩ := h
  exact ⟨ao, n, cap, hc, hs, hr.at (fun _ _ h => h)⟩
theorem MsgO.at {w : World} {c : List Value} {m : cd.Msg} (h : MsgO w c m) : msgRel w w.heap.size c m := by
  obtain ⟨oe, me, ke, oa, ma, ka, ov, mv, kv, oc, mc, kc, pv, nv, lv, pc, nc, lc, os, ms, ks, hc, h1, h2, h3, h4, h5, h6, h7, h8, h9⟩ := h
  exact ⟨oe, me, ke, oa, ma, ka, ov, mv, kv, oc, mc, kc, pv, nv, lv, pc, nc, lc, os, ms, ks, hc, h1.at ent_at, h2.at (fun _ _ h => h), h3.at (fun _ _ h => h), h4.at (fun _ _ h => h), h5.at (fun _ _ h => h), h6.at (fun _ _ h => h), Nat.le_trans h7 (by unfold maxLen; omega), Nat.le_trans h8 (by unfold maxLen; omega), h9.at (fun _ _ h => h)⟩
/-- the message with nothing in it -/
def zeroM : cd.Msg := ⟨0, 0, 0, 0, 0, [], [], [], [], [], [], 0, ⟨#[]⟩, ⟨#[]⟩, [], 0⟩
theorem zero_at (w : World) (B : Nat) : msgRel w B zeroC.toList zeroM :=
  ⟨_, _, _, _, _, _, _, _, _, _, _, _, _, _, _, _, _, _, _, _, _, rfl, RowsAt.nil _ _, RowsAt.nil _ _, RowsAt.nil _ _, RowsAt.nil _ _, RowsAt.nil _ _, RowsAt.nil _ _, Nat.zero_le _, Nat.zero_le _, RowsAt.nil _ _⟩
theorem take_eq {α : Type} (d : α) {a b : List α} {k : Nat} (hl : a.length = b.length) (hk : k < a.length) (h : a.take k = b.take k) (he : a.getD k d = b.getD k d) : a.take (k + 1) = b.take (k + 1) := by
  have hb : k < b.length := by omega
  rw [List.take_succ_eq_append_getElem hk, List.take_succ_eq_append_getElem hb, h]
  simp only [List.getD, List.getElem?_eq_getElem hk, List.getElem?_eq_getElem hb, Option.getD_some] at he
  rw [he]

set_option maxHeartbeats 1600000 in
set_option maxRecDepth 100000 in
theorem ldots_any (a b : List cd.D) (va vb : Value) (w : World) (ha : RowsAt 2 dotR w w.heap.size va a) (hb : RowsAt 2 dotR w w.heap.size vb b) :
    Calls Try.prog 40 #[va, vb] w (Said (decide (a = b)) w) := by
  obtain ⟨ao, ca, rfl, _, hla⟩ := ha.form
  obtain ⟨bo, cb, rfl, _, hlb⟩ := hb.form
  unfold maxLen at hla hlb
  by_cases hl : a.length = b.length
  · have HL := Lib.hid hl
    obtain ⟨n, hn⟩ : ∃ n, n = a.length := ⟨_, rfl⟩
    have HN := Lib.hid hn
    have HNB : Hid (n = b.length) := hn.trans hl
    rw [← hl]
    rw [← hn] at hla ⊢
    have HCA2 : Hid (RowsAt 2 dotR w w.heap.size (.slice ao n ca) a) := by show RowsAt _ _ _ _ _ _; rw [HN.out]; exact ha
    have HCB2 : Hid (RowsAt 2 dotR w w.heap.size (.slice bo n cb) b) := by show RowsAt _ _ _ _ _ _; rw [HNB.out]; exact hb
    clear hlb hl ha hb hn
    go_enter Try.func40, Try.ntmps40
    go_wp2
    go_loopw [13, 25] (fun i _ wr => ∃ k : Nat, i = .int .i64 k ∧ k ≤ n ∧ Hid (a.take k = b.take k) ∧ Below w.heap.size w wr) (fun i _ _ => n - (intOf i).toNat)
    case atStart => exact ⟨0, rfl, by omega, rfl, Below.refl _ _⟩
    case round =>
      obtain ⟨k, rfl, hk, HT, hbl⟩ := hrel
      by_cases hlt : k < n
      · obtain ⟨ba, oa, c, rfl, hBa, _, rfl, hc⟩ := HCA2.out.get HN.out hlt (0, 0)
        obtain ⟨bb, ob, c', rfl, hBb, _, rfl, hc'⟩ := HCB2.out.get HNB.out hlt (0, 0)
        have p0 := hc 0 _ rfl
        have p1 := hc 1 _ rfl
        have r0 := hc' 0 _ rfl
        have r1 := hc' 1 _ rfl
        rw [Nat.add_zero] at p0 r0
        have c0 := (hbl.cell (p := ⟨ba, oa + k * 2, none⟩) hBa).trans p0
        have c1 := (hbl.cell (p := ⟨ba, oa + k * 2 + 1, none⟩) hBa).trans p1
        have d0 := (hbl.cell (p := ⟨bb, ob + k * 2, none⟩) hBb).trans r0
        have d1 := (hbl.cell (p := ⟨bb, ob + k * 2 + 1, none⟩) hBb).trans r1
        clear p0 p1 r0 r1 hc hc'
        have hkI : (k : Int) < (n : Int) := by omega
        by_cases he : a.getD k (0, 0) = b.getD k (0, 0)
        · have HT' : Hid (a.take (k + 1) = b.take (k + 1)) := take_eq (0, 0) HL.out (by rw [← HN.out]; exact hlt) HT.out he
          rw [← he] at d0 d1
          obtain ⟨⟨x0, x1⟩, hx⟩ : ∃ x, x = a.getD k (0, 0) := ⟨_, rfl⟩
          rw [← hx] at c0 c1 d0 d1
          simp only at c0 c1 d0 d1
          clear hx he
          go_wp2
          go_quiet (fail)
          go_wp2
          go_roundw
          case rel => exact ⟨k + 1, by go_num, by omega, HT', below_drewN hbl _⟩
          case measure => simp [intOf]; omega
        · have HE : Hid (decide (a = b) = false) := decide_eq_false (fun e => he (by rw [e]))
          obtain ⟨⟨x0, x1⟩, hx⟩ : ∃ x, x = a.getD k (0, 0) := ⟨_, rfl⟩
          obtain ⟨⟨y0, y1⟩, hy⟩ : ∃ x, x = b.getD k (0, 0) := ⟨_, rfl⟩
          rw [← hx] at c0 c1
          rw [← hy] at d0 d1
          simp only at c0 c1 d0 d1
          have hne : ¬ (x0 = y0 ∧ x1 = y1) := fun ⟨e0, e1⟩ => he (by rw [← hx, ← hy, e0, e1])
          clear hx hy he
          by_cases h0 : x0 = y0
          · subst h0
            have h1 : ¬ x1 = y1 := fun e => hne ⟨rfl, e⟩
            have h2 : (x1 == y1) = false := beq_eq_false_iff_ne.2 h1
            clear hne
            go_wp2
            go_quiet (fail)
            go_wp2
            go_ret
            rw [HE.out]; exact ⟨rfl, below_drewN hbl _⟩
          · have h2 : (x0 == y0) = false := beq_eq_false_iff_ne.2 h0
            clear hne
            go_wp2
            go_quiet (fail)
            go_wp2
            go_ret
            rw [HE.out]; exact ⟨rfl, below_drewN hbl _⟩
      · have HE : Hid (decide (a = b) = true) := by
          have := HT.out
          rw [List.take_of_length_le (by rw [← HN.out]; omega), List.take_of_length_le (by rw [← HNB.out]; omega)] at this
          exact decide_eq_true this
        go_wp2
        go_ret
        rw [HE.out]; exact ⟨rfl, hbl⟩
  · have HE : Hid (decide (a = b) = false) := decide_eq_false (fun e => hl (by rw [e]))
    have hne : ((a.length : Int) != (b.length : Int)) = true := by simp; omega
    have hne2 : ((a.length : Int) == (b.length : Int)) = false := by simp; omega
    clear hl ha hb
    go_enter Try.func40, Try.ntmps40
    go_wp2
    go_ret
    rw [HE.out]; exact ⟨rfl, Below.refl _ _⟩

set_option maxHeartbeats 1600000 in
set_option maxRecDepth 100000 in
theorem contexts_any (a b c d : List cd.D) (a1 : Option Addr) (n1 c1 : Nat) (a2 : Option Addr) (n2 c2 : Nat) (a3 : Option Addr) (n3 c3 : Nat) (a4 : Option Addr) (n4 c4 : Nat) (w : World)
    (h1 : RowsAt 2 dotR w w.heap.size (.slice a1 n1 c1) a) (h2 : RowsAt 2 dotR w w.heap.size (.slice a2 n2 c2) b) (h3 : RowsAt 2 dotR w w.heap.size (.slice a3 n3 c3) c) (h4 : RowsAt 2 dotR w w.heap.size (.slice a4 n4 c4) d) :
    Calls Try.prog 41 #[.agg #[.slice a1 n1 c1, .slice a2 n2 c2], .agg #[.slice a3 n3 c3, .slice a4 n4 c4]] w (Said (decide (a = c ∧ b = d)) w) := by
  have hb1 : Below w.heap.size w (w.alloc (.cells #[.slice a1 n1 c1, .slice a2 n2 c2] 25)) := below1
  have hb2 : Below (w.alloc (.cells #[.slice a1 n1 c1, .slice a2 n2 c2] 25)).heap.size (w.alloc (.cells #[.slice a1 n1 c1, .slice a2 n2 c2] 25)) ((w.alloc (.cells #[.slice a1 n1 c1, .slice a2 n2 c2] 25)).alloc (.cells #[.slice a3 n3 c3, .slice a4 n4 c4] 25)) := below1
  have B := hb1.trans (hb2.mono hb1.size)
  have HD1 := Lib.hid (ldots_any a c _ _ _ (h1.next dotR_steady B) (h3.next dotR_steady B))
  have HB := Lib.hid B
  have H2 := Lib.hid (h2.next dotR_steady B)
  have H4 := Lib.hid (h4.next dotR_steady B)
  have HX1 : Hid (((w.alloc (.cells #[.slice a1 n1 c1, .slice a2 n2 c2] 25)).alloc (.cells #[.slice a3 n3 c3, .slice a4 n4 c4] 25)).heap[w.heap.size]? = some (.cells #[.slice a1 n1 c1, .slice a2 n2 c2] 25)) := (hb2.block _ (by simp)).trans (heap_alloc_new w _)
  have HX2 : Hid (((w.alloc (.cells #[.slice a1 n1 c1, .slice a2 n2 c2] 25)).alloc (.cells #[.slice a3 n3 c3, .slice a4 n4 c4] 25)).heap[w.heap.size + 1]? = some (.cells #[.slice a3 n3 c3, .slice a4 n4 c4] 25)) := by
    have := heap_alloc_new (w.alloc (.cells #[.slice a1 n1 c1, .slice a2 n2 c2] 25)) (.cells #[.slice a3 n3 c3, .slice a4 n4 c4] 25)
    rwa [World.size_alloc] at this
  clear h1 h2 h3 h4 hb1 hb2 B
  by_cases hac : a = c
  · rw [decide_eq_true hac] at HD1
    go_enter Try.func41, Try.ntmps41
    go_wp2_with fail
    (with_reducible refine HD1.out.mono ?_)
    rintro e w1 ⟨rfl, b1⟩
    have k1 := boxc ((b1.block _ (lt_of_block HX1.out)).trans HX1.out) 1 _ rfl
    have k3 := boxc ((b1.block _ (lt_of_block HX2.out)).trans HX2.out) 1 _ rfl
    have HD2 := Lib.hid (ldots_any b d _ _ _ (H2.out.next dotR_steady b1) (H4.out.next dotR_steady b1))
    have HB1 := Lib.hid (HB.out.trans (b1.mono HB.out.size))
    have HE : Hid (decide (a = c ∧ b = d) = decide (b = d)) := by show _ = _; rw [hac]; simp
    clear b1 HD1 hac
    go_wp2_with fail
    (with_reducible refine HD2.out.mono ?_)
    rintro e w2 ⟨rfl, b2⟩
    go_wp2
    go_ret
    rw [HE.out]; exact ⟨rfl, HB1.out.trans (b2.mono HB1.out.size)⟩
  · rw [decide_eq_false hac] at HD1
    have HE : Hid (decide (a = c ∧ b = d) = false) := decide_eq_false (fun h => hac h.1)
    clear hac
    go_enter Try.func41, Try.ntmps41
    go_wp2_with fail
    (with_reducible refine HD1.out.mono ?_)
    rintro e w1 ⟨rfl, b1⟩
    go_wp2
    go_ret
    rw [HE.out]; exact ⟨rfl, HB.out.trans (b1.mono HB.out.size)⟩
end Go.Proofs.Ytghbkieflifegaa
