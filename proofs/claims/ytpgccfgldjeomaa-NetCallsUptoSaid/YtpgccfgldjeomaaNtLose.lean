/- net.Lose, net.Twice. -/
import Derived.Test.YtpgccfgldjeomaaNtTake
namespace Go.Proofs.Ytpgccfgldjeomaa
open Go.RowKit Go.ChangeShapes cl
theorem take_any (L : List cd.Msg) (v : Value) (i : Int) (w : World) (hL : RowsAt 16 msgRel w w.heap.size v L) (hl : L.length ≤ 600) (hf : ∀ x ∈ L, Fit x) :
    Calls Try.prog 11 #[v, .int .i64 i] w (TakeP L i v w) := by
  by_cases hi : 0 ≤ i ∧ i < (L.length : Int)
  · obtain ⟨k, rfl⟩ : ∃ k : Nat, i = (k : Int) := ⟨i.toNat, by omega⟩
    exact take_yes L v k w hL (by omega) hl hf
  · exact take_no L v i w hL hi
/-- what Lose answers -/
def LoseP (L : List cd.Msg) (i : Int) (v : Value) (w : World) (e : Ending) (w' : World) : Prop := Below w.heap.size w w' ∧
  ((¬ (0 ≤ i ∧ i < (L.length : Int)) ∧ e = .returned (.tuple #[v, .int .i64 5])) ∨
   (∃ k : Nat, i = (k : Int) ∧ k < L.length ∧ ∃ ao n cap, e = .returned (.tuple #[.slice ao n cap, .int .i64 0]) ∧ n = L.length - 1 ∧ RowsAt 16 msgRel w' w'.heap.size (.slice ao n cap) (L.take k ++ L.drop (k + 1))))
set_option maxHeartbeats 3200000 in
set_option maxRecDepth 100000 in
theorem lose_any (L : List cd.Msg) (v : Value) (i : Int) (w : World) (hL : RowsAt 16 msgRel w w.heap.size v L) (hl : L.length ≤ 600) (hf : ∀ x ∈ L, Fit x) :
    Calls Try.prog 13 #[v, .int .i64 i] w (LoseP L i v w) := by
  have HT := Lib.hid (take_any L v i w hL hl hf)
  obtain ⟨ao, cap, rfl, hnc, hnm⟩ := hL.form
  obtain ⟨n, hn⟩ : ∃ n, n = L.length := ⟨_, rfl⟩
  rw [← hn] at HT ⊢
  have HN := Lib.hid hn
  clear hL hn hnc hnm
  go_enter Try.func13, Try.ntmps13
  go_wp2_with fail
  (with_reducible refine HT.out.mono ?_)
  rintro e w1 ⟨hb1, h⟩
  rcases h with ⟨hi, rfl⟩ | ⟨k, rfl, hk, o1, m1, q1, c', rfl, hm1, hr, hm⟩
  · have HI := Lib.hid hi
    clear hi
    go_wp2
    exact bodyPost_ret (v := .tuple #[.slice ao n cap, .int .i64 5]) (by simp [results, Try.results13, go_sem]) rfl ⟨hb1.trans (below1.mono hb1.size), Or.inl ⟨HI.out, rfl⟩⟩
  · have HR := Lib.hid hr
    have HK := Lib.hid hk
    have HM := Lib.hid hm1
    obtain ⟨mm, hmm⟩ : ∃ x, x = L.getD k default := ⟨_, rfl⟩
    rw [← hmm] at hm
    obtain ⟨ae, ne, ce, aa, na, ca, p1, n1, c1, p2, n2, c2, p3, n3, c3, p4, n4, c4, sa, sn, sc, rfl, hm'⟩ := hm
    clear hr hk hm' hmm hm1
    go_wp2
    exact bodyPost_ret (v := .tuple #[.slice o1 m1 q1, .int .i64 0]) (by simp [results, Try.results13, go_sem]) rfl ⟨hb1.trans (below1.mono hb1.size), Or.inr ⟨k, rfl, HK.out, _, _, _, rfl, HM.out, RowsAt.next msgRel_steady HR.out below1⟩⟩
/-- what Twice answers -/
def TwiceP (L : List cd.Msg) (i : Int) (v : Value) (w : World) (e : Ending) (w' : World) : Prop :=
  (¬ (0 ≤ i ∧ i < (L.length : Int)) ∧ e = .returned (.tuple #[v, .int .i64 5]) ∧ w' = w) ∨ (∃ k : Nat, i = (k : Int) ∧ k < L.length ∧ SendP L (L.getD k default) v w e w')
theorem sendp_form {L : List cd.Msg} {m : cd.Msg} {v : Value} {w w' : World} {e : Ending} {ao : Option Addr} {n cap : Nat} (h : SendP L m v w e w') (hv : v = .slice ao n cap) : ∃ (o : Option Addr) (n c : Nat) (k : Int), e = .returned (.tuple #[.slice o n c, .int .i64 k]) := by
  obtain ⟨_, ⟨_, rfl⟩ | ⟨_, g, q, cs, c', rfl, _⟩⟩ := h
  · subst hv; exact ⟨_, _, _, _, rfl⟩
  · exact ⟨_, _, _, _, rfl⟩
theorem send_all (L : List cd.Msg) (m : cd.Msg) (v : Value) (c : List Value) (w : World) (hL : RowsAt 16 msgRel w w.heap.size v L) (hm : msgRel w w.heap.size c m) (hf : Fit m) :
    Calls Try.prog 9 #[v, .agg c.toArray] w (SendP L m v w) := by
  by_cases h : L.length < 600
  · exact send_any L m v c w hL hm hf h
  · exact send_full L m v c w hL (by omega)
set_option maxHeartbeats 3200000 in
set_option maxRecDepth 100000 in
theorem twice_any (L : List cd.Msg) (v : Value) (i : Int) (w : World) (hL : RowsAt 16 msgRel w w.heap.size v L) (hf : ∀ x ∈ L, Fit x) :
    Calls Try.prog 15 #[v, .int .i64 i] w (TwiceP L i v w) := by
  obtain ⟨n, hn⟩ : ∃ n, n = L.length := ⟨_, rfl⟩
  have HL := Lib.hid hL
  obtain ⟨ao, cap, rfl, hnc, hnm⟩ := hL.form' hn
  unfold maxLen at hnm
  by_cases hi : 0 ≤ i ∧ i < (L.length : Int)
  · obtain ⟨k, rfl⟩ : ∃ k : Nat, i = (k : Int) := ⟨i.toNat, by omega⟩
    have hk : k < L.length := by omega
    have hkn : k < n := by omega
    obtain ⟨b0, off, c, rfl, hbB, hcl, hR, hcell⟩ := hL.get hn hkn default
    have HT := Lib.hid (there_yes (some ⟨b0, off, none⟩) n cap k w hkn)
    have HS := Lib.hid (send_all L (L.getD k default) (.slice (some ⟨b0, off, none⟩) n cap) c w hL hR (hf _ (by
      rw [List.getD_eq_getElem?_getD, List.getElem?_eq_getElem hk]
      exact List.getElem_mem _)))
    have HK := Lib.hid hk
    obtain ⟨mm, hmm⟩ : ∃ x, x = L.getD k default := ⟨_, rfl⟩
    have HMM := Lib.hid hmm
    rw [← hmm] at hR HS
    obtain ⟨ae, ne, ce, aa, na, ca, p1, n1, c1, p2, n2, c2, p3, n3, c3, p4, n4, c4, sa, sn, sc, rfl, hR'⟩ := hR
    have s0 : w.cell? ⟨b0, off + k * 16, none⟩ = some (.int .i64 mm.k) := hcell 0 _ rfl
    have s1 : w.cell? ⟨b0, off + k * 16 + 1, none⟩ = some (.int .i64 mm.f) := hcell 1 _ rfl
    have s2 : w.cell? ⟨b0, off + k * 16 + 2, none⟩ = some (.int .i64 mm.to) := hcell 2 _ rfl
    have s3 : w.cell? ⟨b0, off + k * 16 + 3, none⟩ = some (.int .i64 mm.g) := hcell 3 _ rfl
    have s4 : w.cell? ⟨b0, off + k * 16 + 4, none⟩ = some (.int .i64 mm.n) := hcell 4 _ rfl
    have s5 : w.cell? ⟨b0, off + k * 16 + 5, none⟩ = some (.slice ae ne ce) := hcell 5 _ rfl
    have s6 : w.cell? ⟨b0, off + k * 16 + 6, none⟩ = some (.slice aa na ca) := hcell 6 _ rfl
    have s7 : w.cell? ⟨b0, off + k * 16 + 7, none⟩ = some (.slice p1 n1 c1) := hcell 7 _ rfl
    have s8 : w.cell? ⟨b0, off + k * 16 + 8, none⟩ = some (.slice p2 n2 c2) := hcell 8 _ rfl
    have s9 : w.cell? ⟨b0, off + k * 16 + 9, none⟩ = some (.slice p3 n3 c3) := hcell 9 _ rfl
    have s10 : w.cell? ⟨b0, off + k * 16 + 10, none⟩ = some (.slice p4 n4 c4) := hcell 10 _ rfl
    have s11 : w.cell? ⟨b0, off + k * 16 + 11, none⟩ = some (.int .i64 mm.ki) := hcell 11 _ rfl
    have s12 : w.cell? ⟨b0, off + k * 16 + 12, none⟩ = some (.string mm.mn) := hcell 12 _ rfl
    have s13 : w.cell? ⟨b0, off + k * 16 + 13, none⟩ = some (.string mm.mv) := hcell 13 _ rfl
    have s14 : w.cell? ⟨b0, off + k * 16 + 14, none⟩ = some (.slice sa sn sc) := hcell 14 _ rfl
    have s15 : w.cell? ⟨b0, off + k * 16 + 15, none⟩ = some (.int .i64 mm.er) := hcell 15 _ rfl
    clear hi hk hR' hmm hcell hcl hbB hL hf hn
    go_enter Try.func15, Try.ntmps15
    go_wp2_with fail
    (with_reducible refine HT.out.mono ?_)
    rintro e w1 ⟨rfl, rfl⟩
    go_wp2_with fail
    (with_reducible refine HS.out.mono ?_)
    rintro e w2 hS
    have HS2 := Lib.hid hS
    obtain ⟨o, n', c', code, rfl⟩ := sendp_form hS rfl
    clear hS
    go_wp2
    refine bodyPost_ret (v := .tuple #[.slice o n' c', .int .i64 code]) (by simp [results, Try.results15, go_sem]) rfl (Or.inr ⟨k, rfl, HK.out, ?_⟩)
    rw [← HMM.out]; exact HS2.out
  · have HT := Lib.hid (there_no ao n cap i w (by rw [hn]; exact hi))
    have HI := Lib.hid hi
    clear hi hL hf hn
    go_enter Try.func15, Try.ntmps15
    go_wp2_with fail
    (with_reducible refine HT.out.mono ?_)
    rintro e w1 ⟨rfl, rfl⟩
    go_wp2
    exact bodyPost_ret (v := .tuple #[.slice ao n cap, .int .i64 5]) (by simp [results, Try.results15, go_sem]) rfl (Or.inl ⟨HI.out, rfl, rfl⟩)
end Go.Proofs.Ytpgccfgldjeomaa
