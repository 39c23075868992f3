/- net: the document's all, Send. -/
import Derived.Test.YtpgccfgldjeomaaNtOwn
namespace Go.Proofs.Ytpgccfgldjeomaa
open Go Go.RowKit Go.ChangeShapes cl
theorem MsgsF.kMsg {w0 w w' : World} {v : Value} {n : Nat} {cs : List (List Value)} {L : List cd.Msg} (h : MsgsF w0 w v n cs L) (hk : Kt 34 w w') : ∀ (j : Nat) (c : List Value) (x : cd.Msg), cs[j]? = some c → L[j]? = some x → MsgF w0.heap.size w' c x :=
  fun j c x hc hx => (h.2.1 j c x hc hx).kt hk (by decide) (by decide) (by decide) (by decide)
theorem MsgsF.snoc {w0 w w' : World} {v v' : Value} {n : Nat} {cs : List (List Value)} {L : List cd.Msg} {c : List Value} {x : cd.Msg} (h : MsgsF w0 w v n cs L) (hk : Kt 34 w w') (hM : MsgF w0.heap.size w' c x) (ho : w'.ownsRow w0.heap.size 34 16 v' (n + 1) (cs.flatten ++ c)) : MsgsF w0 w' v' (n + 1) (cs ++ [c]) (L ++ [x]) := by
  refine ⟨by simp [h.1], snoc_rows (P := fun c x => MsgF w0.heap.size w' c x) h.1 (h.kMsg hk) hM, ?_, by rw [List.length_append, h.2.2.2]; rfl⟩
  rw [List.flatten_append, List.flatten_cons, List.flatten_nil, List.append_nil]
  exact ho
set_option maxHeartbeats 6400000 in
set_option maxRecDepth 100000 in
theorem rall_any (l : List cd.Msg) (v : Value) (w : World) (h : RowsAt 16 msgRel w w.heap.size v l) (hl : l.length ≤ 1048576) (hs : ∀ m ∈ l, Small 1048576 m) :
    Calls Try.prog 26 #[v] w (fun e w' => ∃ o n c cs, e = .returned (.slice o n c) ∧ MsgsF w w' (.slice o n c) n cs l ∧ Below w.heap.size w w') := by
  obtain ⟨n, hn⟩ : ∃ n, n = l.length := ⟨_, rfl⟩
  obtain ⟨ao, cap, rfl, hnc, hnm⟩ := h.form' hn
  rw [← hn] at hl
  have HL := Lib.hid h
  have HN := Lib.hid hn
  have HSM := Lib.hid hs
  clear h hn hs hnc hnm
  go_enter Try.func26, Try.ntmps26
  go_wp2
  go_loopw [3, 8, 17] (fun v i _ wr => ∃ (k : Nat) (o : Option Addr) (m1 c1 : Nat) (cs : List (List Value)), v = .slice o m1 c1 ∧ i = .int .i64 k ∧ k ≤ n ∧ Hid (MsgsF w wr (.slice o m1 c1) m1 cs (l.take k)) ∧ Hid (Below w.heap.size w wr)) (fun _ i _ _ => n - (intOf i).toNat)
  case atStart => exact ⟨0, none, 0, 0, [], rfl, rfl, by omega, MsgsF.nil w, Below.refl _ _⟩
  case round =>
    obtain ⟨k, o, m1, c9, cs, rfl, rfl, hk, HO, HB⟩ := hrel
    by_cases hlt : k < n
    · have hkI : (k : Int) < (n : Int) := by omega
      have hm1 : m1 = k := by rw [HO.out.2.2.2, List.length_take, ← HN.out]; omega
      subst hm1
      obtain ⟨b, off, cc, rfl, hR, hC⟩ := rows_cells (HL.out.next msgRel_steady HB.out) HN.out hlt (m := l.getD m1 default) rfl
      obtain ⟨m, hx⟩ : ∃ x, x = l.getD m1 default := ⟨_, rfl⟩
      have HX : Hid (l.take (m1 + 1) = l.take m1 ++ [m]) := by
        show _ = _
        rw [hx]; exact take_one l m1 default (by rw [← HN.out]; exact hlt)
      have hsx : Small 1048576 m := HSM.out m (by
        rw [hx, List.getD_eq_getElem?_getD, List.getElem?_eq_getElem (by rw [← HN.out]; exact hlt)]
        exact List.getElem_mem _)
      rw [← hx] at hR
      obtain ⟨ae, ne, ce, aa, na, ca, p1, n1, c1, p2, n2, c2, p3, n3, c3, p4, n4, c4, sa, sn, sc, rfl, g⟩ := hR
      have hR : msgRel wr wr.heap.size (#[.int .i64 m.k, .int .i64 m.f, .int .i64 m.to, .int .i64 m.g, .int .i64 m.n, .slice ae ne ce, .slice aa na ca, .slice p1 n1 c1, .slice p2 n2 c2, .slice p3 n3 c3, .slice p4 n4 c4, .int .i64 m.ki, .string m.mn, .string m.mv, .slice sa sn sc, .int .i64 m.er] : Array Value).toList m := ⟨ae, ne, ce, aa, na, ca, p1, n1, c1, p2, n2, c2, p3, n3, c3, p4, n4, c4, sa, sn, sc, rfl, g⟩
      have q0 : wr.cell? ⟨b, off + m1 * 16, none⟩ = _ := hC wr (Below.refl _ _) 0 _ rfl
      have q1 := hC wr (Below.refl _ _) 1 _ rfl
      have q2 := hC wr (Below.refl _ _) 2 _ rfl
      have q3 := hC wr (Below.refl _ _) 3 _ rfl
      have q4 := hC wr (Below.refl _ _) 4 _ rfl
      have q5 := hC wr (Below.refl _ _) 5 _ rfl
      have q6 := hC wr (Below.refl _ _) 6 _ rfl
      have q7 := hC wr (Below.refl _ _) 7 _ rfl
      have q8 := hC wr (Below.refl _ _) 8 _ rfl
      have q9 := hC wr (Below.refl _ _) 9 _ rfl
      have q10 := hC wr (Below.refl _ _) 10 _ rfl
      have q11 := hC wr (Below.refl _ _) 11 _ rfl
      have q12 := hC wr (Below.refl _ _) 12 _ rfl
      have q13 := hC wr (Below.refl _ _) 13 _ rfl
      have q14 := hC wr (Below.refl _ _) 14 _ rfl
      have q15 := hC wr (Below.refl _ _) 15 _ rfl
      obtain ⟨Wa, hWa⟩ : ∃ W, W = wr.alloc (.cells #[.int .i64 m.k, .int .i64 m.f, .int .i64 m.to, .int .i64 m.g, .int .i64 m.n, .slice ae ne ce, .slice aa na ca, .slice p1 n1 c1, .slice p2 n2 c2, .slice p3 n3 c3, .slice p4 n4 c4, .int .i64 m.ki, .string m.mn, .string m.mv, .slice sa sn sc, .int .i64 m.er] 34) := ⟨_, rfl⟩
      have ba : Below wr.heap.size wr Wa := by rw [hWa]; exact below1
      have HOWN := Lib.hid (rown_any m _ Wa (msgRel_steady _ _ _ _ _ _ hR ba ba.size) hsx)
      have BA := Lib.hid ba
      have HWa := Lib.hid hWa
      clear g hR hC hx hsx ba hWa
      go_wp2_with fail
      rw [← HWa.out]
      clear q0 q1 q2 q3 q4 q5 q6 q7 q8 q9 q10 q11 q12 q13 q14 q15
      (with_reducible refine HOWN.out.mono ?_)
      rintro e w2 ⟨c', rfl, hM, b2⟩
      have hb2 : Below wr.heap.size wr w2 := BA.out.trans (b2.mono BA.out.size)
      have hO2 := HO.out.next hb2
      have hMl : MsgF w.heap.size w2 c' m := hM.low (Nat.le_trans HB.out.size BA.out.size)
      obtain ⟨oe, me, ke, oa, ma, ka, ov, mv, kv, oc, mc, kc, pv, nv, lv, pc, nc, lc, os, ms, ks, rfl, gM⟩ := hMl
      have hMl : MsgF w.heap.size w2 (#[.int .i64 m.k, .int .i64 m.f, .int .i64 m.to, .int .i64 m.g, .int .i64 m.n, .slice oe me ke, .slice oa ma ka, .slice ov mv kv, .slice oc mc kc, .slice pv nv lv, .slice pc nc lc, .int .i64 m.ki, .string m.mn, .string m.mv, .slice os ms ks, .int .i64 m.er] : Array Value).toList m := ⟨oe, me, ke, oa, ma, ka, ov, mv, kv, oc, mc, kc, pv, nv, lv, pc, nc, lc, os, ms, ks, rfl, gM⟩
      have hbl : Below w2.heap.size w2 (w2.alloc (.cells #[.int .i64 m.k, .int .i64 m.f, .int .i64 m.to, .int .i64 m.g, .int .i64 m.n, .slice oe me ke, .slice oa ma ka, .slice ov mv kv, .slice oc mc kc, .slice pv nv lv, .slice pc nc lc, .int .i64 m.ki, .string m.mn, .string m.mv, .slice os ms ks, .int .i64 m.er] 34)) := below1
      have HB2 := Lib.hid (HB.out.trans (hb2.mono HB.out.size))
      have hz2 : w.heap.size ≤ w2.heap.size := HB2.out.size
      have HO2 := Lib.hid hO2
      have HOR := Lib.hid hO2.2.2.1
      have HML := Lib.hid hMl
      have HBL := Lib.hid hbl
      clear gM hM hMl hbl hO2 hb2 b2 HOWN
      go_wp2_with (at_builtin; refine app1g (.tmp 12) (.tmp 15) 22 rfl rfl w.heap.size Try.underlying22 ninfo_msg rfl (by decide) (by decide) HOR.out rfl rfl rfl (by intro u hu; simp at hu; rcases hu with rfl | rfl | rfl | rfl | rfl | rfl | rfl | rfl | rfl | rfl | rfl | rfl | rfl | rfl | rfl | rfl <;> rfl) (by omega) hz2 ?_)
      intro v' w3 hown' hg3
      have hoA := World.ownsRow.alloc HOR.out (.cells #[.int .i64 m.k, .int .i64 m.f, .int .i64 m.to, .int .i64 m.g, .int .i64 m.n, .slice oe me ke, .slice oa ma ka, .slice ov mv kv, .slice oc mc kc, .slice pv nv lv, .slice pc nc lc, .int .i64 m.ki, .string m.mn, .string m.mv, .slice os ms ks, .int .i64 m.er] 34)
      have hkB : Kt 34 w2 w3 := (Kt.of_below (T := 34) HBL.out).trans (Kt.append hoA hg3)
      have HB3 : Hid (Below w.heap.size w w3) := HB2.out.trans ((HBL.out.mono hz2).trans (grown_below hoA (by simp; omega) hg3))
      obtain ⟨o3, c8, rfl⟩ := own_form4 hown'
      have HO' : Hid (MsgsF w w3 (.slice o3 (m1 + 1) c8) (m1 + 1) (cs ++ [(#[.int .i64 m.k, .int .i64 m.f, .int .i64 m.to, .int .i64 m.g, .int .i64 m.n, .slice oe me ke, .slice oa ma ka, .slice ov mv kv, .slice oc mc kc, .slice pv nv lv, .slice pc nc lc, .int .i64 m.ki, .string m.mn, .string m.mv, .slice os ms ks, .int .i64 m.er] : Array Value).toList]) (l.take (m1 + 1))) := by
        rw [HX.out]
        exact HO2.out.snoc hkB (HML.out.kt hkB (by decide) (by decide) (by decide) (by decide)) hown'
      clear hown' hg3 hoA hkB
      go_wp2
      go_roundw
      case rel => exact ⟨m1 + 1, o3, _, c8, _, rfl, by go_num, by omega, HO', HB3⟩
      case measure => simp [intOf]; omega
    · have HE : Hid (MsgsF w wr (.slice o m1 c9) m1 cs l) := by
        have := HO.out
        rwa [List.take_of_length_le (by rw [← HN.out]; omega)] at this
      go_wp2
      go_ret
      exact ⟨_, _, _, _, rfl, HE.out, HB.out⟩
/-- an answer of messages and a code -/
def LA (L : List cd.Msg) (code : Int) (w : World) (e : Ending) (w' : World) : Prop :=
  ∃ ao n cap, e = .returned (.tuple #[.slice ao n cap, .int .i64 code]) ∧ RowsAt 16 msgRel w' w'.heap.size (.slice ao n cap) L ∧ n = L.length ∧ Below w.heap.size w w'
set_option maxHeartbeats 6400000 in
set_option maxRecDepth 100000 in
theorem rsend_any (L : List cd.Msg) (m : cd.Msg) (v : Value) (c : List Value) (w : World) (h : RowsAt 16 msgRel w w.heap.size v L) (hm : msgRel w w.heap.size c m) (hl : L.length ≤ 1048576) (hs : ∀ m ∈ L, Small 1048576 m) (hsm : Small 1048576 m) :
    Calls Try.prog 10 #[v, .agg c.toArray] w (LA (if L.length < 600 then L ++ [m] else L) (if L.length < 600 then 0 else 7) w) := by
  obtain ⟨ae, ne, ce, aa, na, ca, p1, n1, c1, p2, n2, c2, p3, n3, c3, p4, n4, c4, sa, sn, sc, rfl, g⟩ := hm
  have hm : msgRel w w.heap.size (#[.int .i64 m.k, .int .i64 m.f, .int .i64 m.to, .int .i64 m.g, .int .i64 m.n, .slice ae ne ce, .slice aa na ca, .slice p1 n1 c1, .slice p2 n2 c2, .slice p3 n3 c3, .slice p4 n4 c4, .int .i64 m.ki, .string m.mn, .string m.mv, .slice sa sn sc, .int .i64 m.er] : Array Value).toList m := ⟨ae, ne, ce, aa, na, ca, p1, n1, c1, p2, n2, c2, p3, n3, c3, p4, n4, c4, sa, sn, sc, rfl, g⟩
  obtain ⟨ao, cap, hvf, _, _⟩ := h.form
  obtain ⟨n, hn⟩ : ∃ n, n = L.length := ⟨_, rfl⟩
  rw [← hn] at hvf hl
  obtain ⟨W1, hW1⟩ : ∃ W, W = w.alloc (.cells #[.int .i64 m.k, .int .i64 m.f, .int .i64 m.to, .int .i64 m.g, .int .i64 m.n, .slice ae ne ce, .slice aa na ca, .slice p1 n1 c1, .slice p2 n2 c2, .slice p3 n3 c3, .slice p4 n4 c4, .int .i64 m.ki, .string m.mn, .string m.mv, .slice sa sn sc, .int .i64 m.er] 34) := ⟨_, rfl⟩
  have b1 : Below w.heap.size w W1 := by rw [hW1]; exact below1
  have x1 : W1.heap[w.heap.size]? = some (.cells #[.int .i64 m.k, .int .i64 m.f, .int .i64 m.to, .int .i64 m.g, .int .i64 m.n, .slice ae ne ce, .slice aa na ca, .slice p1 n1 c1, .slice p2 n2 c2, .slice p3 n3 c3, .slice p4 n4 c4, .int .i64 m.ki, .string m.mn, .string m.mv, .slice sa sn sc, .int .i64 m.er] 34) := by rw [hW1]; exact heap_alloc_new w _
  have HALL := Lib.hid (rall_any L v W1 (h.next msgRel_steady b1) (by omega) hs)
  have HOWN : Hid (∀ W, Below w.heap.size w W → Calls Try.prog 27 #[.agg #[.int .i64 m.k, .int .i64 m.f, .int .i64 m.to, .int .i64 m.g, .int .i64 m.n, .slice ae ne ce, .slice aa na ca, .slice p1 n1 c1, .slice p2 n2 c2, .slice p3 n3 c3, .slice p4 n4 c4, .int .i64 m.ki, .string m.mn, .string m.mv, .slice sa sn sc, .int .i64 m.er]] W (fun e w' => ∃ c', e = .returned (.agg (List.toArray c')) ∧ MsgF W.heap.size w' c' m ∧ Below W.heap.size W w')) := fun W hW => rown_any m _ W (msgRel_steady _ _ _ _ _ _ hm hW hW.size) hsm
  have X1 := Lib.hid x1
  have B1 := Lib.hid b1
  have HW1 := Lib.hid hW1
  have HN := Lib.hid hn
  subst hvf
  clear g hm hW1 b1 x1 h hs hsm hn
  by_cases h6 : n < 600
  · have h6L : L.length < 600 := by rw [← HN.out]; exact h6
    rw [if_pos h6L, if_pos h6L]
    have h6I : ¬ (600 : Int) ≤ (n : Int) := by omega
    clear h6L
    go_enter Try.func10, Try.ntmps10
    go_wp2_with fail
    rw [← HW1.out]
    (with_reducible refine HALL.out.mono ?_)
    rintro e w2 ⟨o, n', c9, cs, rfl, hO, b2⟩
    obtain rfl : n = n' := by rw [hO.2.2.2, HN.out]
    have B2 := Lib.hid (B1.out.trans (b2.mono B1.out.size))
    have x2 := (b2.block _ (lt_of_block X1.out)).trans X1.out
    have q0 := boxc x2 0 _ rfl
    have q1 := boxc x2 1 _ rfl
    have q2 := boxc x2 2 _ rfl
    have q3 := boxc x2 3 _ rfl
    have q4 := boxc x2 4 _ rfl
    have q5 := boxc x2 5 _ rfl
    have q6 := boxc x2 6 _ rfl
    have q7 := boxc x2 7 _ rfl
    have q8 := boxc x2 8 _ rfl
    have q9 := boxc x2 9 _ rfl
    have q10 := boxc x2 10 _ rfl
    have q11 := boxc x2 11 _ rfl
    have q12 := boxc x2 12 _ rfl
    have q13 := boxc x2 13 _ rfl
    have q14 := boxc x2 14 _ rfl
    have q15 := boxc x2 15 _ rfl
    have HO := Lib.hid hO
    have HZ12 : Hid (W1.heap.size ≤ w2.heap.size) := b2.size
    clear hO x2 b2
    go_wp2_with fail
    clear q0 q1 q2 q3 q4 q5 q6 q7 q8 q9 q10 q11 q12 q13 q14 q15
    (with_reducible refine (HOWN.out _ B2.out).mono ?_)
    rintro e w3 ⟨c', rfl, hM, b3⟩
    have hMl : MsgF W1.heap.size w3 c' m := hM.low HZ12.out
    obtain ⟨oe, me, ke, oa, ma, ka, ov, mv, kv, oc, mc, kc, pv, nv, lv, pc, nc, lc, os, ms, ks, rfl, gM⟩ := hMl
    have HML : Hid (MsgF W1.heap.size w3 (#[.int .i64 m.k, .int .i64 m.f, .int .i64 m.to, .int .i64 m.g, .int .i64 m.n, .slice oe me ke, .slice oa ma ka, .slice ov mv kv, .slice oc mc kc, .slice pv nv lv, .slice pc nc lc, .int .i64 m.ki, .string m.mn, .string m.mv, .slice os ms ks, .int .i64 m.er] : Array Value).toList m) := ⟨oe, me, ke, oa, ma, ka, ov, mv, kv, oc, mc, kc, pv, nv, lv, pc, nc, lc, os, ms, ks, rfl, gM⟩
    have HO3 := Lib.hid (HO.out.next b3)
    have HOR := Lib.hid HO3.out.2.2.1
    have B3 := Lib.hid (B2.out.trans (b3.mono B2.out.size))
    have hz3 : W1.heap.size ≤ w3.heap.size := Nat.le_trans HZ12.out b3.size
    have HBL : Hid (Below w3.heap.size w3 (w3.alloc (.cells #[.int .i64 m.k, .int .i64 m.f, .int .i64 m.to, .int .i64 m.g, .int .i64 m.n, .slice oe me ke, .slice oa ma ka, .slice ov mv kv, .slice oc mc kc, .slice pv nv lv, .slice pc nc lc, .int .i64 m.ki, .string m.mn, .string m.mv, .slice os ms ks, .int .i64 m.er] 34))) := below1
    clear hM gM b3
    go_wp2_with (at_builtin; refine app1g (.tmp 13) (.tmp 16) 22 rfl rfl W1.heap.size Try.underlying22 ninfo_msg rfl (by decide) (by decide) HOR.out rfl rfl rfl (by intro u hu; simp at hu; rcases hu with rfl | rfl | rfl | rfl | rfl | rfl | rfl | rfl | rfl | rfl | rfl | rfl | rfl | rfl | rfl | rfl <;> rfl) (by omega) hz3 ?_)
    intro v' w4 hown' hg3
    have hoA := World.ownsRow.alloc HOR.out (.cells #[.int .i64 m.k, .int .i64 m.f, .int .i64 m.to, .int .i64 m.g, .int .i64 m.n, .slice oe me ke, .slice oa ma ka, .slice ov mv kv, .slice oc mc kc, .slice pv nv lv, .slice pc nc lc, .int .i64 m.ki, .string m.mn, .string m.mv, .slice os ms ks, .int .i64 m.er] 34)
    have hkB : Kt 34 w3 w4 := (Kt.of_below (T := 34) HBL.out).trans (Kt.append hoA hg3)
    have HB4 : Hid (Below w.heap.size w w4) := B3.out.trans (((HBL.out.mono hz3).trans (grown_below hoA (by simp; omega) hg3)).mono B1.out.size)
    obtain ⟨o3, c8, rfl⟩ := own_form4 hown'
    have hO' := HO3.out.snoc hkB (HML.out.kt hkB (by decide) (by decide) (by decide) (by decide)) hown'
    have HR := Lib.hid hO'.rows
    clear hown' hg3 hoA hkB hO'
    go_wp2
    go_ret2
    exact ⟨_, _, _, rfl, HR.out, by rw [List.length_append, ← HN.out]; rfl, HB4.out⟩
  · have h6L : ¬ L.length < 600 := by rw [← HN.out]; exact h6
    rw [if_neg h6L, if_neg h6L]
    have h6I : (600 : Int) ≤ (n : Int) := by omega
    clear h6L
    go_enter Try.func10, Try.ntmps10
    go_wp2_with fail
    rw [← HW1.out]
    (with_reducible refine HALL.out.mono ?_)
    rintro e w2 ⟨o, n', c9, cs, rfl, hO, b2⟩
    obtain rfl : n = n' := by rw [hO.2.2.2, HN.out]
    have B2 := Lib.hid (B1.out.trans (b2.mono B1.out.size))
    have HR := Lib.hid hO.rows
    clear hO b2
    go_wp2
    go_ret2
    exact ⟨_, _, _, rfl, HR.out, HN.out, B2.out⟩
end Go.Proofs.Ytpgccfgldjeomaa
