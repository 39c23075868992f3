/- net: what is answered, in one form for the program and for the document. -/
import Derived.Test.YtpgccfgldjeomaaNtRTake
namespace Go.Proofs.Ytpgccfgldjeomaa
open Go Go.RowKit Go.ChangeShapes cl
def tkL (L : List cd.Msg) (i : Int) : List cd.Msg := if 0 ≤ i ∧ i < (L.length : Int) then L.take i.toNat ++ L.drop (i.toNat + 1) else L
def tkX (L : List cd.Msg) (i : Int) : cd.Msg := if 0 ≤ i ∧ i < (L.length : Int) then L.getD i.toNat default else default
def tkC (L : List cd.Msg) (i : Int) : Int := if 0 ≤ i ∧ i < (L.length : Int) then 0 else 5
def twL (L : List cd.Msg) (i : Int) : List cd.Msg := if 0 ≤ i ∧ i < (L.length : Int) then L ++ [L.getD i.toNat default] else L
theorem get_mem {L : List cd.Msg} {k : Nat} (hk : k < L.length) : L.getD k default ∈ L := by
  rw [List.getD_eq_getElem?_getD, List.getElem?_eq_getElem hk]
  exact List.getElem_mem _
theorem cut_size {L : List cd.Msg} {k : Nat} (hk : k < L.length) : L.length - 1 = (L.take k ++ L.drop (k + 1)).length := by
  rw [List.length_append, List.length_take, List.length_drop]; omega
section
variable {L : List cd.Msg} {m : cd.Msg} {v : Value} {c : List Value} {i : Int} {w : World}
theorem net_send (hL : RowsAt 16 msgRel w w.heap.size v L) (hm : msgRel w w.heap.size c m) (hf : Fit m) (hl : L.length < 600) :
    Calls Try.prog 9 #[v, .agg c.toArray] w (LA (L ++ [m]) 0 w) :=
  (send_any L m v c w hL hm hf hl).mono fun e w' h => by
    obtain ⟨ao, n, cap, he, hr, hn, hb⟩ := h.rows hl
    exact ⟨ao, n, cap, he, hr, by rw [hn, List.length_append]; rfl, hb⟩
theorem net_take (hL : RowsAt 16 msgRel w w.heap.size v L) (hl : L.length ≤ 600) (hf : ∀ x ∈ L, Fit x) :
    Calls Try.prog 11 #[v, .int .i64 i] w (TA (tkL L i) (tkX L i) (tkC L i) w) :=
  (take_any L v i w hL hl hf).mono fun e w' h => by
    obtain ⟨hb, ⟨hi, he⟩ | ⟨k, rfl, hk, ao, n, cap, c', he, hn, hr, hm⟩⟩ := h
    · unfold tkL tkX tkC
      rw [if_neg hi, if_neg hi, if_neg hi]
      obtain ⟨n, hn⟩ : ∃ n, n = L.length := ⟨_, rfl⟩
      obtain ⟨ao, cap, rfl, _, _⟩ := hL.form' hn
      exact ⟨ao, n, cap, zeroC.toList, he, hL.next msgRel_steady hb, hn, zero_at w' _, hb⟩
    · have hi : 0 ≤ (k : Int) ∧ (k : Int) < (L.length : Int) := by omega
      unfold tkL tkX tkC
      rw [if_pos hi, if_pos hi, if_pos hi, Int.toNat_natCast]
      exact ⟨ao, n, cap, c', he, hr, by rw [hn]; exact cut_size hk, hm, hb⟩
theorem net_lose (hL : RowsAt 16 msgRel w w.heap.size v L) (hl : L.length ≤ 600) (hf : ∀ x ∈ L, Fit x) :
    Calls Try.prog 13 #[v, .int .i64 i] w (LA (tkL L i) (tkC L i) w) :=
  (lose_any L v i w hL hl hf).mono fun e w' h => by
    obtain ⟨hb, ⟨hi, he⟩ | ⟨k, rfl, hk, ao, n, cap, he, hn, hr⟩⟩ := h
    · unfold tkL tkC
      rw [if_neg hi, if_neg hi]
      obtain ⟨n, hn⟩ : ∃ n, n = L.length := ⟨_, rfl⟩
      obtain ⟨ao, cap, rfl, _, _⟩ := hL.form' hn
      exact ⟨ao, n, cap, he, hL.next msgRel_steady hb, hn, hb⟩
    · have hi : 0 ≤ (k : Int) ∧ (k : Int) < (L.length : Int) := by omega
      unfold tkL tkC
      rw [if_pos hi, if_pos hi, Int.toNat_natCast]
      exact ⟨ao, n, cap, he, hr, by rw [hn]; exact cut_size hk, hb⟩
theorem net_twice (hL : RowsAt 16 msgRel w w.heap.size v L) (hl : L.length < 600) (hf : ∀ x ∈ L, Fit x) :
    Calls Try.prog 15 #[v, .int .i64 i] w (LA (twL L i) (tkC L i) w) :=
  (twice_any L v i w hL hf).mono fun e w' h => by
    obtain ⟨hi, he, rfl⟩ | ⟨k, rfl, hk, h⟩ := h
    · unfold twL tkC
      rw [if_neg hi, if_neg hi]
      obtain ⟨n, hn⟩ : ∃ n, n = L.length := ⟨_, rfl⟩
      obtain ⟨ao, cap, rfl, _, _⟩ := hL.form' hn
      exact ⟨ao, n, cap, he, hL, hn, Below.refl _ _⟩
    · have hi : 0 ≤ (k : Int) ∧ (k : Int) < (L.length : Int) := by omega
      unfold twL tkC
      rw [if_pos hi, if_pos hi, Int.toNat_natCast]
      obtain ⟨ao, n, cap, he, hr, hn, hb⟩ := h.rows hl
      exact ⟨ao, n, cap, he, hr, by rw [hn, List.length_append]; rfl, hb⟩
theorem ref_send (hL : RowsAt 16 msgRel w w.heap.size v L) (hm : msgRel w w.heap.size c m) (hs : ∀ m ∈ L, Small 1048576 m) (hsm : Small 1048576 m) (hl : L.length < 600) :
    Calls Try.prog 10 #[v, .agg c.toArray] w (LA (L ++ [m]) 0 w) := by
  have h := rsend_any L m v c w hL hm (by omega) hs hsm
  rwa [if_pos hl, if_pos hl] at h
theorem ref_take (hL : RowsAt 16 msgRel w w.heap.size v L) (hl : L.length ≤ 600) (hs : ∀ m ∈ L, Small 1048576 m) :
    Calls Try.prog 12 #[v, .int .i64 i] w (TA (tkL L i) (tkX L i) (tkC L i) w) := by
  unfold tkL tkX tkC
  by_cases hi : 0 ≤ i ∧ i < (L.length : Int)
  · rw [if_pos hi, if_pos hi, if_pos hi]
    obtain ⟨k, rfl⟩ : ∃ k : Nat, i = (k : Int) := ⟨i.toNat, by omega⟩
    rw [Int.toNat_natCast]
    exact rtake_yes L v k w hL (by omega) hs (by omega)
  · rw [if_neg hi, if_neg hi, if_neg hi]
    exact rtake_no L v i w hL (by omega) hs hi
end
set_option maxHeartbeats 3200000 in
set_option maxRecDepth 100000 in
theorem ref_lose {L : List cd.Msg} {v : Value} {i : Int} {w : World} (hL : RowsAt 16 msgRel w w.heap.size v L) (hl : L.length ≤ 600) (hs : ∀ m ∈ L, Small 1048576 m) :
    Calls Try.prog 14 #[v, .int .i64 i] w (LA (tkL L i) (tkC L i) w) := by
  have HT := Lib.hid (ref_take (i := i) hL hl hs)
  obtain ⟨tl, htl⟩ : ∃ x, x = tkL L i := ⟨_, rfl⟩
  obtain ⟨tc, htc⟩ : ∃ x, x = tkC L i := ⟨_, rfl⟩
  obtain ⟨tx, htx⟩ : ∃ x, x = tkX L i := ⟨_, rfl⟩
  rw [← htl, ← htc] at HT ⊢
  rw [← htx] at HT
  obtain ⟨ao, cap, rfl, hnc, hnm⟩ := hL.form
  obtain ⟨n, hn⟩ : ∃ n, n = L.length := ⟨_, rfl⟩
  rw [← hn] at HT ⊢
  clear hL hn hnc hnm htl htc htx hl hs
  go_enter Try.func14, Try.ntmps14
  go_wp2_with fail
  (with_reducible refine HT.out.mono ?_)
  rintro e w1 ⟨o1, m1, q1, c', rfl, hr, hn1, hm, hb1⟩
  have HR := Lib.hid hr
  have HN := Lib.hid hn1
  obtain ⟨ae, ne, ce, aa, na, ca, p1, n1, c1, p2, n2, c2, p3, n3, c3, p4, n4, c4, sa, sn, sc, rfl, hm'⟩ := hm
  clear hr hm' hn1
  go_wp2
  exact bodyPost_ret (v := .tuple #[.slice o1 m1 q1, .int .i64 tc]) (by simp [results, Try.results14, go_sem]) rfl ⟨_, _, _, rfl, RowsAt.next msgRel_steady HR.out below1, HN.out, hb1.trans (below1.mono hb1.size)⟩
set_option maxHeartbeats 3200000 in
set_option maxRecDepth 100000 in
theorem ref_twice {L : List cd.Msg} {v : Value} {i : Int} {w : World} (hL : RowsAt 16 msgRel w w.heap.size v L) (hl : L.length < 600) (hs : ∀ m ∈ L, Small 1048576 m) :
    Calls Try.prog 16 #[v, .int .i64 i] w (LA (twL L i) (tkC L i) w) := by
  obtain ⟨n, hn⟩ : ∃ n, n = L.length := ⟨_, rfl⟩
  obtain ⟨ao, cap, rfl, hnc, hnm⟩ := hL.form' hn
  unfold maxLen at hnm
  unfold twL tkC
  by_cases hi : 0 ≤ i ∧ i < (L.length : Int)
  · rw [if_pos hi, if_pos hi]
    obtain ⟨k, rfl⟩ : ∃ k : Nat, i = (k : Int) := ⟨i.toNat, by omega⟩
    rw [Int.toNat_natCast]
    have hk : k < L.length := by omega
    have hkn : k < n := by omega
    obtain ⟨b0, off, c, rfl, hR, hcell⟩ := rows_cells hL hn hkn (m := L.getD k default) rfl
    have HS := Lib.hid (ref_send hL hR hs (hs _ (get_mem hk)) hl)
    obtain ⟨mm, hmm⟩ : ∃ x, x = L.getD k default := ⟨_, rfl⟩
    rw [← hmm] at hR HS ⊢
    obtain ⟨ae, ne, ce, aa, na, ca, p1, n1, c1, p2, n2, c2, p3, n3, c3, p4, n4, c4, sa, sn, sc, rfl, hR'⟩ := hR
    have s0 : w.cell? ⟨b0, off + k * 16, none⟩ = some (.int .i64 mm.k) := hcell w (Below.refl _ _) 0 _ rfl
    have s1 : w.cell? ⟨b0, off + k * 16 + 1, none⟩ = some (.int .i64 mm.f) := hcell w (Below.refl _ _) 1 _ rfl
    have s2 : w.cell? ⟨b0, off + k * 16 + 2, none⟩ = some (.int .i64 mm.to) := hcell w (Below.refl _ _) 2 _ rfl
    have s3 : w.cell? ⟨b0, off + k * 16 + 3, none⟩ = some (.int .i64 mm.g) := hcell w (Below.refl _ _) 3 _ rfl
    have s4 : w.cell? ⟨b0, off + k * 16 + 4, none⟩ = some (.int .i64 mm.n) := hcell w (Below.refl _ _) 4 _ rfl
    have s5 : w.cell? ⟨b0, off + k * 16 + 5, none⟩ = some (.slice ae ne ce) := hcell w (Below.refl _ _) 5 _ rfl
    have s6 : w.cell? ⟨b0, off + k * 16 + 6, none⟩ = some (.slice aa na ca) := hcell w (Below.refl _ _) 6 _ rfl
    have s7 : w.cell? ⟨b0, off + k * 16 + 7, none⟩ = some (.slice p1 n1 c1) := hcell w (Below.refl _ _) 7 _ rfl
    have s8 : w.cell? ⟨b0, off + k * 16 + 8, none⟩ = some (.slice p2 n2 c2) := hcell w (Below.refl _ _) 8 _ rfl
    have s9 : w.cell? ⟨b0, off + k * 16 + 9, none⟩ = some (.slice p3 n3 c3) := hcell w (Below.refl _ _) 9 _ rfl
    have s10 : w.cell? ⟨b0, off + k * 16 + 10, none⟩ = some (.slice p4 n4 c4) := hcell w (Below.refl _ _) 10 _ rfl
    have s11 : w.cell? ⟨b0, off + k * 16 + 11, none⟩ = some (.int .i64 mm.ki) := hcell w (Below.refl _ _) 11 _ rfl
    have s12 : w.cell? ⟨b0, off + k * 16 + 12, none⟩ = some (.string mm.mn) := hcell w (Below.refl _ _) 12 _ rfl
    have s13 : w.cell? ⟨b0, off + k * 16 + 13, none⟩ = some (.string mm.mv) := hcell w (Below.refl _ _) 13 _ rfl
    have s14 : w.cell? ⟨b0, off + k * 16 + 14, none⟩ = some (.slice sa sn sc) := hcell w (Below.refl _ _) 14 _ rfl
    have s15 : w.cell? ⟨b0, off + k * 16 + 15, none⟩ = some (.int .i64 mm.er) := hcell w (Below.refl _ _) 15 _ rfl
    have hk0 : ¬ (k : Int) < 0 := by omega
    have hk1 : ¬ (n : Int) ≤ (k : Int) := by omega
    clear hi hk hR' hmm hcell hs hn hL hl
    go_enter Try.func16, Try.ntmps16
    go_wp2_with fail
    (with_reducible refine HS.out.mono ?_)
    rintro e w2 ⟨o, m', c', rfl, hr, hn', hb⟩
    have HR := Lib.hid hr
    have HN := Lib.hid hn'
    clear hr hn'
    go_wp2
    exact bodyPost_ret (v := .tuple #[.slice o m' c', .int .i64 0]) (by simp [results, Try.results16, go_sem]) rfl ⟨_, _, _, rfl, HR.out, HN.out, hb⟩
  · rw [if_neg hi, if_neg hi]
    have HA := Lib.hid (rall_any L _ w hL (by omega) hs)
    have HN := Lib.hid hn
    rw [← hn] at hi
    clear hL hl hs hn
    have key : (i < 0) ∨ (¬ i < 0 ∧ (n : Int) ≤ i) := by omega
    clear hi
    rcases key with k1 | ⟨k1, k2⟩
    · go_enter Try.func16, Try.ntmps16
      go_wp2_with fail
      (with_reducible refine HA.out.mono ?_)
      rintro e w2 ⟨o, n', c', cs, rfl, hO, hb⟩
      have HO := Lib.hid hO
      clear hO
      go_wp2
      exact bodyPost_ret (v := .tuple #[.slice o n' c', .int .i64 5]) (by simp [results, Try.results16, go_sem]) rfl ⟨_, _, _, rfl, HO.out.rows, HO.out.2.2.2, hb⟩
    · go_enter Try.func16, Try.ntmps16
      go_wp2_with fail
      (with_reducible refine HA.out.mono ?_)
      rintro e w2 ⟨o, n', c', cs, rfl, hO, hb⟩
      have HO := Lib.hid hO
      clear hO
      go_wp2
      exact bodyPost_ret (v := .tuple #[.slice o n' c', .int .i64 5]) (by simp [results, Try.results16, go_sem]) rfl ⟨_, _, _, rfl, HO.out.rows, HO.out.2.2.2, hb⟩
end Go.Proofs.Ytpgccfgldjeomaa
