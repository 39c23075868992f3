/- the reader: fail, next, meets. -/
import Derived.Test.YtbccejlemhgioaaRxBase
import Derived.BigQuiet
namespace Go.Proofs.Ytbccejlemhgioaa
open Go Go.RowKit Go.ChangeShapes cl rx
set_option maxHeartbeats 3200000 in
set_option maxRecDepth 100000 in
theorem rx_fail (q : Nat) (S : ByteArray) (t : St) (z co : Int) (w : World) (h : Rd q S t w) : Calls Try.prog 21 #[.pointer (some ⟨q, 0, none⟩), .int .i64 z, .int .i64 co] w (fun e w' => e = .returned (.tuple #[]) ∧ RK q S (t.fail z co) w w') := by
  have HR := Lib.hid h
  have c4 := boxc h 4 _ rfl
  have c3 := boxc h 3 _ rfl
  have f3 := boxf h 3
  have f4 := boxf h 4
  by_cases g : t.co = 0
  · have HF : Hid (t.fail z co = { t with wr := z, co := co }) := by show _ = _; unfold St.fail; rw [if_pos g]
    have x1 : (w.setCell ⟨q, 3, none⟩ (.int .i64 z)).heap[q]? = some (.cells #[.string S, .int .i64 (t.p : Int), .int .i64 t.dp, .int .i64 z, .int .i64 t.co] 44) := heap_setCell_same w q 3 _ _ _ h
    have d4 := boxc x1 4 _ rfl
    have g4 := boxf x1 4
    have HP : Hid (RK q S { t with wr := z, co := co } w ((w.setCell ⟨q, 3, none⟩ (.int .i64 z)).setCell ⟨q, 4, none⟩ (.int .i64 co))) :=
      ⟨heap_setCell_same _ q 4 _ _ _ x1, KX.cell.trans KX.cell⟩
    rw [HF.out]
    rw [g] at c4 d4
    clear h x1 g
    go_enter Try.func21, Try.ntmps21
    go_wp2
    go_end0
    exact ⟨rfl, HP.out⟩
  · have HF : Hid (t.fail z co = t) := by show _ = _; unfold St.fail; rw [if_neg g]
    rw [HF.out]
    clear h
    go_enter Try.func21, Try.ntmps21
    go_wp2
    go_end0
    exact ⟨rfl, HR.out, KX.refl⟩
set_option maxHeartbeats 3200000 in
set_option maxRecDepth 100000 in
theorem rx_next (q : Nat) (S : ByteArray) (t : St) (w : World) (h : Rd q S t w) (_hS : S.size ≤ 60) : Calls Try.prog 35 #[.pointer (some ⟨q, 0, none⟩)] w (fun e w' => e = .returned (.tuple #[.int .u8 (((nxt (kit.bytes S) t).getD 0 : Nat) : Int), .bool (nxt (kit.bytes S) t).isSome]) ∧ Below w.heap.size w w') := by
  have HR := Lib.hid h
  have c4 := boxc h 4 _ rfl
  have c1 := boxc h 1 _ rfl
  have c0 := boxc h 0 _ rfl
  by_cases g : t.co = 0
  · by_cases g2 : t.p < S.size
    · have HN : nxt (kit.bytes S) t = some (S[t.p]'g2).toNat := by unfold nxt; rw [if_pos g, byte_at g2]
      rw [HN]
      obtain ⟨p, hp⟩ : ∃ p, p = t.p := ⟨_, rfl⟩
      have g3 : p < S.size := by rw [hp]; exact g2
      have HB : (S[t.p]'g2).toNat = (S[p]'g3).toNat := by simp only [hp]
      rw [HB]
      rw [← hp] at c1
      rw [g] at c4
      have gi : (p : Int) < (S.size : Int) := by omega
      have X1 : Hid (w.heap[q]? = some (.cells #[.string S, .int .i64 (p : Int), .int .i64 t.dp, .int .i64 t.wr, .int .i64 t.co] 44)) := by show _ = _; rw [hp]; exact h
      clear h HN HB hp g2 g
      simp only [Option.getD_some, Option.isSome_some]
      go_enter Try.func35, Try.ntmps35
      go_wp2
      go_quiet (fail)
      have bd := below_drewN (Below.refl w.heap.size w) nq
      obtain ⟨W4, hW4⟩ : ∃ W, W = w.drewN nq := ⟨_, rfl⟩
      rw [← hW4] at bd ⊢
      have x4 := (bd.block q (lt_of_block X1.out)).trans X1.out
      have BD := Lib.hid bd
      clear c0 c1 c4 hW4 bd
      have c0 := boxc x4 0 _ rfl
      have c1 := boxc x4 1 _ rfl
      clear x4
      go_wp2
      go_quiet (fail)
      have bd2 := below_drewN (Below.refl W4.heap.size W4) nq
      obtain ⟨W5, hW5⟩ : ∃ W, W = W4.drewN nq := ⟨_, rfl⟩
      rw [← hW5] at bd2 ⊢
      have BD2 := Lib.hid (BD.out.trans (bd2.mono BD.out.size))
      clear hW5 bd2 c0 c1
      go_wp2
      refine bodyPost_ret (v := .tuple #[.int .u8 ((S[p]'g3).toNat : Int), .bool true]) (by simp [results, Try.results35, go_sem]) rfl ⟨rfl, BD2.out⟩
    · have HN : nxt (kit.bytes S) t = none := by unfold nxt; rw [if_pos g, byte_no (by omega)]
      rw [HN]
      have gi : (S.size : Int) ≤ (t.p : Int) := by omega
      have gn : S.size ≤ t.p := by omega
      rw [g] at c4
      clear h HN g
      simp only [Option.getD_none, Option.isSome_none]
      go_enter Try.func35, Try.ntmps35
      go_wp2
      go_quiet (fail)
      have bd := below_drewN (Below.refl w.heap.size w) nq
      obtain ⟨W4, hW4⟩ : ∃ W, W = w.drewN nq := ⟨_, rfl⟩
      rw [← hW4] at bd ⊢
      have BD := Lib.hid bd
      clear c0 c1 c4 hW4 bd
      go_wp2
      refine bodyPost_ret (v := .tuple #[.int .u8 0, .bool false]) (by simp [results, Try.results35, go_sem]) rfl ⟨rfl, BD.out⟩
  · have HN : nxt (kit.bytes S) t = none := by unfold nxt; rw [if_neg g]
    rw [HN]
    clear h HN
    simp only [Option.getD_none, Option.isSome_none]
    go_enter Try.func35, Try.ntmps35
    go_wp2
    go_quiet (fail)
    have bd := below_drewN (Below.refl w.heap.size w) nq
    obtain ⟨W4, hW4⟩ : ∃ W, W = w.drewN nq := ⟨_, rfl⟩
    rw [← hW4] at bd ⊢
    have BD := Lib.hid bd
    clear c0 c1 c4 hW4 bd
    go_wp2
    refine bodyPost_ret (v := .tuple #[.int .u8 0, .bool false]) (by simp [results, Try.results35, go_sem]) rfl ⟨rfl, BD.out⟩
theorem nxt_lt {S : ByteArray} {t : St} {c : Nat} (h : nxt (kit.bytes S) t = some c) : t.co = 0 ∧ t.p < S.size ∧ c < 256 := by
  unfold nxt at h
  split at h
  · rename_i h0
    have hl : (kit.bytes S).length = S.size := by simp [kit.bytes]
    have hp := (List.getElem?_eq_some_iff.1 h).1
    exact ⟨h0, by omega, kit.bytes_lt S c (List.mem_of_getElem? h)⟩
  · cases h
set_option maxHeartbeats 3200000 in
set_option maxRecDepth 100000 in
theorem rx_meets (q : Nat) (S : ByteArray) (t : St) (c : Nat) (w : World) (h : Rd q S t w) (hS : S.size ≤ 60) : Calls Try.prog 27 #[.pointer (some ⟨q, 0, none⟩), .int .u8 c] w (fun e w' => e = .returned (.bool (meets (kit.bytes S) c t).1) ∧ RK q S (meets (kit.bytes S) c t).2 w w') := by
  have HN := Lib.hid (rx_next q S t w h hS)
  have HR := Lib.hid h
  obtain ⟨o, ho⟩ : ∃ o, o = nxt (kit.bytes S) t := ⟨_, rfl⟩
  rw [← ho] at HN
  have HO := Lib.hid ho
  cases o with
  | none =>
    have HM : meets (kit.bytes S) c t = (false, t) := by unfold meets; rw [← ho]; simp
    rw [HM]
    clear h ho HM
    simp only [Option.getD_none, Option.isSome_none] at HN
    go_enter Try.func27, Try.ntmps27
    go_wp2_with fail
    (with_reducible refine HN.out.mono ?_)
    rintro e w3 ⟨rfl, b3⟩
    have R3 := Lib.hid (HR.out.next b3)
    have K3 := Lib.hid (KX.of (q := q) b3)
    clear b3
    go_wp2
    go_ret
    exact ⟨rfl, R3.out, K3.out⟩
  | some d =>
    obtain ⟨h0, hp, hd⟩ := nxt_lt ho.symm
    simp only [Option.getD_some, Option.isSome_some] at HN
    by_cases hdc : d = c
    · have HM : meets (kit.bytes S) c t = (true, t.fwd) := by unfold meets; rw [← ho, if_pos (by rw [hdc])]
      rw [HM]
      subst hdc
      clear h ho HM
      go_enter Try.func27, Try.ntmps27
      go_wp2_with fail
      (with_reducible refine HN.out.mono ?_)
      rintro e w3 ⟨rfl, b3⟩
      have x3 := HR.out.next b3
      have K3 := KX.of (q := q) b3
      have c1 := boxc x3 1 _ rfl
      have f1 := boxf x3 1
      have HX : Hid (RK q S t.fwd w (w3.setCell ⟨q, 1, none⟩ (.int .i64 ((t.p : Int) + 1)))) := ⟨heap_setCell_same w3 q 1 _ _ _ x3, K3.trans KX.cell⟩
      clear x3 K3 b3
      go_wp2
      go_ret
      exact ⟨rfl, HX.out⟩
    · have HM : meets (kit.bytes S) c t = (false, t) := by unfold meets; rw [← ho, if_neg (by simpa using hdc)]
      rw [HM]
      have hdi : ¬ (d : Int) = (c : Int) := by omega
      clear h ho HM
      go_enter Try.func27, Try.ntmps27
      go_wp2_with fail
      (with_reducible refine HN.out.mono ?_)
      rintro e w3 ⟨rfl, b3⟩
      have R3 := Lib.hid (HR.out.next b3)
      have K3 := Lib.hid (KX.of (q := q) b3)
      clear b3
      go_wp2
      go_ret
      exact ⟨rfl, R3.out, K3.out⟩
end Go.Proofs.Ytbccejlemhgioaa
