/- the document's Text of labels. -/
import Derived.Test.YtpfjmomdnegcpaaLabText
import Derived.Test.YtpfjmomdnegcpaaLabRCanon
import Derived.Test.YtpfjmomdnegcpaaLabQuo
import Derived.BigQuiet
namespace Go.Proofs.Ytpfjmomdnegcpaa
open Go.RowKit Go.ChangeShapes cl
set_option maxHeartbeats 3200000 in
set_option maxRecDepth 100000 in
theorem rtext_any (l : List Lab) (v : Value) (w : World) (h : Labs w w.heap.size v l) (hs : ∀ x ∈ l, x.1.size ≤ maxLen ∧ x.2.size ≤ maxLen) (hl6 : l.length ≤ 100000) :
    Calls Try.prog 18 #[v] w (TextP (lm.textF l) w) := by
  have HCA := Lib.hid (rcanon_any l v w h hs hl6)
  obtain ⟨R, hR⟩ : ∃ R, R = lm.textF l := ⟨_, rfl⟩
  have HR := Lib.hid hR
  obtain ⟨⟨f, c⟩, hfc⟩ : ∃ r, r = lm.canonF l := ⟨_, rfl⟩
  have HFC := Lib.hid hfc
  rw [← hR]
  rw [← hfc] at HCA
  have HC := Lib.hid h
  clear hR h hs hl6
  obtain ⟨n, hn⟩ : ∃ n, n = l.length := ⟨_, rfl⟩
  have HN := Lib.hid hn
  obtain ⟨ao, cap, rfl⟩ : ∃ ao cap, v = .slice ao n cap := by
    obtain ⟨ao, cap, e, _⟩ := HC.out.form
    exact ⟨ao, cap, by rw [HN.out]; exact e⟩
  clear hn
  by_cases hf : f = 0
  rotate_left
  · have HRB : Hid (R = (f, .empty)) := by
      show _ = _
      rw [HR.out, lm.textF, ← HFC.out, if_neg hf]
    have hfb : (f != 0) = true := by simpa using hf
    have hfc2 : (f == 0) = false := by simpa using hf
    clear hfc
    go_enter Try.func18, Try.ntmps18
    go_wp2_with fail
    (with_reducible refine HCA.out.mono ?_)
    rintro e w1 ⟨vc, rfl, _, hb1⟩
    have HRET := Lib.hid (textP_bad HRB.out hb1)
    go_wp2
    exact bodyPost_ret (v := .tuple #[.string ⟨#[]⟩, .int .i64 f]) (by simp [results, Try.results18, go_sem]) rfl HRET.out
  subst hf
  by_cases hcl : c = l
  rotate_left
  · have HRB : Hid (R = (3, .empty)) := by
      show _ = _
      rw [HR.out, lm.textF, ← HFC.out, if_pos rfl, if_neg hcl]
    have HD : Hid (decide (c = l) = false) := decide_eq_false hcl
    clear hfc hcl
    go_enter Try.func18, Try.ntmps18
    go_wp2_with fail
    (with_reducible refine HCA.out.mono ?_)
    rintro e w1 ⟨vc, rfl, hlc, hb1⟩
    have HEQ := Lib.hid (rsame_any c l vc _ w1 hlc (Cells.next HC.out hb1))
    rw [HD.out] at HEQ
    have HB1 := Lib.hid hb1
    clear hlc hb1
    go_wp2_with fail
    (with_reducible refine HEQ.out.mono ?_)
    rintro e w2 ⟨rfl, hb2⟩
    have HRET := Lib.hid (textP_bad HRB.out (HB1.out.trans (hb2.mono HB1.out.size)))
    go_wp2
    exact bodyPost_ret (v := .tuple #[.string ⟨#[]⟩, .int .i64 3]) (by simp [results, Try.results18, go_sem]) rfl HRET.out
  have HGO : Hid (lm.Good l ∧ l.length ≤ 6) := by
    have h1 := lm.canon_form (l := l) (c := c) HFC.out.symm
    rw [hcl] at h1
    exact ⟨h1.2.2.2.1, by have := h1.2.2.2.1.2.2; rw [h1.2.2.1] at this; exact this⟩
  have HRT : Hid (R = (0, kit.str (lm.textB l))) := by show _ = _; rw [HR.out]; exact lm.text_iff.2 ⟨by rw [← HFC.out, hcl], rfl⟩
  rw [hcl] at HCA
  have hn6 : n ≤ 6 := by rw [HN.out]; exact HGO.out.2
  have HU := Lib.hid infoU8
  clear hfc hcl
  go_enter Try.func18, Try.ntmps18
  go_wp2_with fail
  (with_reducible refine HCA.out.mono ?_)
  rintro e w1 ⟨vc, rfl, hlc, hb1⟩
  have heq := rsame_any l l vc _ w1 hlc (Cells.next HC.out hb1)
  rw [decide_eq_true (rfl : l = l)] at heq
  have HEQ := Lib.hid heq
  clear heq
  have HB1 := Lib.hid hb1
  clear hlc hb1
  go_wp2_with fail
  (with_reducible refine HEQ.out.mono ?_)
  rintro e w2 ⟨rfl, hb2⟩
  have HB2 := Lib.hid (HB1.out.trans (hb2.mono HB1.out.size))
  have HL2 : Hid (Labs w2 w2.heap.size (.slice ao n cap) l) := Cells.next HC.out HB2.out
  have HQU : Hid (∀ (s : ByteArray) (W : World), s.size ≤ 100000 → Calls Try.prog 33 #[.string s] W fun e w' => e = .returned (.string (kit.str ([34] ++ escN (kit.bytes s) ++ [34]))) ∧ w' = W) := fun s W h => quoted_any s W h
  clear hb2
  go_wp2
  go_loopw [6, 7, 8, 23] (fun o _ _ i wr => ∃ (k : Nat) (q : ByteArray), i = .int .i64 k ∧ o = .string q ∧ k ≤ n ∧ q.size ≤ 1 + 84 * k ∧ Hid (q = kit.str ([123] ++ (lm.behind (l.take k)).drop 1)) ∧ Below w2.heap.size w2 wr) (fun _ _ _ i _ => n - (intOf i).toNat)
  case atStart => exact ⟨0, _, rfl, rfl, by omega, by show _ ≤ 1; exact Nat.le_refl _, (by simp [lm.behind]; rfl), Below.refl _ _⟩
  case round =>
    obtain ⟨k, q, rfl, rfl, hk, hpl, HPRE, hbl⟩ := hrel
    have hz := hbl.size
    by_cases hlt : k < n
    · obtain ⟨b, off, rfl, hB, p0, p1⟩ := Labs.get (l := l) HL2.out HN.out hlt
      have HKL : Hid (k < l.length) := by show k < l.length; rw [← HN.out]; exact hlt
      have hgd := HGO.out.1.1 (l.getD k (.empty, .empty)) (by have := HKL.out; simp [List.getD, this])
      obtain ⟨⟨xa, xb⟩, hx⟩ : ∃ x, x = l.getD k (.empty, .empty) := ⟨_, rfl⟩
      rw [← hx] at p0 p1 hgd
      obtain ⟨ha16, _, hb32⟩ := lm.good_len hgd
      have HX : Hid ((xa, xb) = l.getD k (.empty, .empty)) := hx
      have HST := Lib.hid (lm.text_step HKL.out HX.out)
      simp only at p0 p1 ha16 hb32
      obtain ⟨Q, hQ⟩ : ∃ Q, Q = kit.str ([34] ++ escN (kit.bytes xb) ++ [34]) := ⟨_, rfl⟩
      have hQs : Q.size ≤ 66 := by
        rw [hQ, kit.str_size]
        have := esc_len (kit.bytes xb)
        rw [kit.bytes_len] at this
        simp only [List.length_append, List.length_cons, List.length_nil]; omega
      have HQ1 : Hid (∀ W : World, Calls Try.prog 33 #[.string xb] W fun e w' => e = .returned (.string Q) ∧ w' = W) := fun W => by
        rw [hQ]; exact HQU.out xb W (by omega)
      have HONE : Hid (kit.str (lm.oneT (xa, xb)) = xa ++ ⟨#[61]⟩ ++ Q) := by
        show kit.str (lm.oneT _) = _
        unfold lm.oneT
        rw [kit.str_app, kit.str_app, ← hQ, kit.str_bytes]; rfl
      have e0 := (hbl.cell (p := ⟨b, off + k * 2, none⟩) hB).trans p0
      have e1 := (hbl.cell (p := ⟨b, off + k * 2 + 1, none⟩) hB).trans p1
      have hkI : (k : Int) < (n : Int) := by omega
      have hbl0 := hbl.alloc hz (.cells #[.string xa, .string xb] 38)
      have y1 : ¬ 9223372036854775807 < xa.size + 1 := by omega
      have y2 : ¬ 9223372036854775807 < xa.size + 1 + Q.size := by omega
      have y3 : ¬ 9223372036854775807 < q.size + (xa.size + 1 + Q.size) := by omega
      have y4 : ¬ 9223372036854775807 < q.size + 1 := by omega
      have y5 : ¬ 9223372036854775807 < q.size + 1 + (xa.size + 1 + Q.size) := by omega
      have hqs : (xa ++ ⟨#[61]⟩ ++ Q).size = xa.size + 1 + Q.size := by rw [ByteArray.size_append, ByteArray.size_append]; rfl
      clear p0 p1 hx hQ hgd HX
      by_cases h0 : k = 0
      · have h0I : ¬ (0 : Int) < (k : Int) := by omega
        have h0n : ¬ 0 < k := by omega
        have HP2 : Hid (q ++ (xa ++ ⟨#[61]⟩ ++ Q) = kit.str ([123] ++ (lm.behind (l.take (k + 1))).drop 1)) := by
          show _ = _
          rw [HST.out, if_neg h0n, List.nil_append, kit.str_app, HONE.out, HPRE.out]
          have : (lm.behind (l.take k)).drop 1 = [] := by rw [h0]; rfl
          rw [this]; rfl
        have HSZ2 : Hid ((q ++ (xa ++ ⟨#[61]⟩ ++ Q)).size ≤ 1 + 84 * (k + 1)) := by show _ ≤ _; rw [ByteArray.size_append, hqs]; omega
        clear h0 hqs
        go_wp2
        go_quiet ((go_at_call 33; exact Calls.quiet_of_same (HQ1.out _)))
        go_wp2
        go_roundw
        case rel => exact ⟨k + 1, _, by go_num, rfl, by omega, HSZ2.out, HP2.out, below_drewN hbl0 _⟩
        case measure => simp [intOf]; omega
      · have h0I : (0 : Int) < (k : Int) := by omega
        have h0n : 0 < k := by omega
        have HP2 : Hid (q ++ ⟨#[44]⟩ ++ (xa ++ ⟨#[61]⟩ ++ Q) = kit.str ([123] ++ (lm.behind (l.take (k + 1))).drop 1)) := by
          show _ = _
          rw [HST.out, if_pos h0n, ← List.append_assoc, ← List.append_assoc, kit.str_app, HONE.out, kit.str_app, ← HPRE.out]; rfl
        have HSZ2 : Hid ((q ++ ⟨#[44]⟩ ++ (xa ++ ⟨#[61]⟩ ++ Q)).size ≤ 1 + 84 * (k + 1)) := by
          show _ ≤ _
          rw [ByteArray.size_append, ByteArray.size_append, hqs]
          show q.size + 1 + _ ≤ _
          omega
        clear h0 hqs
        go_wp2
        go_quiet ((go_at_call 33; exact Calls.quiet_of_same (HQ1.out _)))
        go_wp2
        go_roundw
        case rel => exact ⟨k + 1, _, by go_num, rfl, by omega, HSZ2.out, HP2.out, below_drewN hbl0 _⟩
        case measure => simp [intOf]; omega
    · obtain rfl : k = n := by omega
      have z1 : ¬ 9223372036854775807 < q.size + 1 := by omega
      have HRET : Hid (TextP R w (.returned (.tuple #[.string (q ++ ⟨#[125]⟩), .int .i64 0])) wr) := by
        show TextP _ _ _ _
        have e : kit.str (lm.textB l) = q ++ ⟨#[125]⟩ := by
          rw [lm.textB, kit.str_app, HPRE.out, List.take_of_length_le (by rw [HN.out]; exact Nat.le_refl _)]; rfl
        rw [HRT.out, e]
        exact ⟨rfl, HB2.out.trans (hbl.mono HB2.out.size)⟩
      go_wp2
      exact bodyPost_ret (v := .tuple #[.string (q ++ ⟨#[125]⟩), .int .i64 0]) (by simp [results, Try.results18, go_sem]) rfl HRET.out
end Go.Proofs.Ytpfjmomdnegcpaa
