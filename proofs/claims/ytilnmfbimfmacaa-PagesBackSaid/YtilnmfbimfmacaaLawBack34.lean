/- PagesBack, walked. -/
import Derived.Test.YtilnmfbimfmacaaPgAt
namespace Go.Proofs.Ytilnmfbimfmacaa
open Go.RowKit Go.ChangeShapes Go.Joins cl pg

theorem str_toList_ne {a b : ByteArray} (h : a ≠ b) : (a.toList == b.toList) = false := beq_eq_false_iff_ne.2 fun e => h (toList_inj e)
theorem page_after_size {l : List ByteArray} (h : okL l) {m k : Nat} : (page l m k).after.size ≤ 700 := by
  show (l.getD (min ((k + 1) * m) l.length - 1) .empty).size ≤ 700
  by_cases hl : min ((k + 1) * m) l.length - 1 < l.length
  · exact h.2.2.2 _ (mem_get hl)
  · rw [List.getD, List.getElem?_eq_none (by omega)]; exact Nat.zero_le _

set_option maxHeartbeats 6400000 in
set_option maxRecDepth 100000 in
theorem lawback_any (l : List ByteArray) (v : Value) (most : Int) (s : ByteArray) (w : World) (h : Strs w w.heap.size v l) (hs : s.size ≤ 9223372036854775807) :
    Calls Try.prog 7 #[v, .int .i64 most, .string s] w (Said true w) := by
  have E0 := env1 h
  obtain ⟨ao, cap, rfl, _, _⟩ := h.form
  clear h
  have HRI := Lib.hid (crise E0 (.head _))
  by_cases h13 : 1300 < s.size
  · go_enter Try.func7, Try.ntmps7
    go_wp2_with fail
    refine HRI.out.mono ?_
    rintro e w1 ⟨r, rfl, HOK, rfl⟩
    cases r <;>
    · go_wp2_with fail
      refine (awake_any _).mono ?_
      rintro e w1 ⟨rfl, hb⟩
      go_wp2
      go_ret
      exact ⟨rfl, hb⟩
  · obtain ⟨r, hr⟩ : ∃ r, r = tk.read (kit.bytes s) := ⟨_, rfl⟩
    obtain ⟨x, q⟩ := r
    obtain ⟨X, hX⟩ : ∃ X, X = kit.str x := ⟨_, rfl⟩
    have HRS : Hid (∀ W : World, Calls Try.prog 17 #[.string s] W (fun e W' => e = .returned (.tuple #[.string X, .int .i64 (q : Int)]) ∧ Below W.heap.size W W')) := fun W => by
      have := read_any s W (by omega)
      rw [← hr] at this
      rw [hX]; exact this
    have hxl : ∀ y ∈ x, y < 256 := by have := tk.read_lt (s := kit.bytes s); rw [← hr] at this; exact this
    have HXB : Hid (kit.bytes X = x) := by show _ = _; rw [hX, kit.bytes_str _ hxl]
    have HTS : Hid (q = 0 → kit.str (tk.token (kit.bytes X) true) = s) := fun h0 => by
      rw [HXB.out]
      have h1 : tk.read (kit.bytes s) = (x, 0) := by rw [← hr, h0]
      rw [tk.token_read h1, kit.str_bytes]
    have HXS : Hid (q = 0 → X.size ≤ 3000) := fun h0 => by
      have h1 : tk.read (kit.bytes s) = (x, 0) := by rw [← hr, h0]
      have h2 := tk.token_read h1
      have h3 := congrArg List.length h2
      rw [kit.bytes_len] at h3
      have h4 : (tk.token x true).length = 1 + 2 * x.length := by simp [tk.token, tk.enc_len]; omega
      rw [hX, kit.str_size]; omega
    clear hr hX hxl
    go_enter Try.func7, Try.ntmps7
    go_wp2_with fail
    refine HRI.out.mono ?_
    rintro e w1 ⟨r, rfl, HOK, rfl⟩
    cases r with
    | false =>
      go_wp2_with fail
      refine (awake_any _).mono ?_
      rintro e w1 ⟨rfl, hb⟩
      go_wp2
      go_ret
      exact ⟨rfl, hb⟩
    | true =>
      have hok : okL l := HOK.out rfl
      clear HOK HRI
      go_wp2_with fail
      refine (call1 E0 (.head _) hok most).mono ?_
      rintro e W1 ⟨v1, ps, rfl, HM, hpa, E1, hb1⟩
      obtain ⟨n, hn⟩ : ∃ n, n = ps.length := ⟨_, rfl⟩
      have HN := Lib.hid hn
      have hn200 : n ≤ 9223372036854775807 := by
        obtain ⟨_, _, _, _, h9⟩ := hpa.1.form
        rw [hn]; unfold maxLen at h9; exact h9
      obtain ⟨a1, c1, rfl⟩ := hpa.form hn
      have HPA := Lib.hid hpa
      have HE1 := Lib.hid E1
      have HOKL := Lib.hid hok
      clear hn hpa hok E0 hb1 E1
      go_wp2
      go_loopw [8, 9, 10, 11, 27] (fun _ _ _ _ i wr => ∃ k : Nat, i = .int .i64 k ∧ k ≤ n ∧ Below W1.heap.size W1 wr) (fun _ _ _ _ i _ => n - (intOf i).toNat)
      case atStart => exact ⟨0, rfl, by omega, Below.refl _ _⟩
      case round =>
        obtain ⟨k, rfl, hk, hbl⟩ := hrel
        by_cases hlt : k < n
        · obtain ⟨b, off, lv, p, rfl, hB, hj, q0, q1, q2, hS⟩ := HPA.out.get HN.out hlt
          have hps : p.after.size ≤ 700 := by
            have h1 := map_get HM.out hj
            by_cases hlow : most < 1
            · rw [all_low hlow] at h1; cases h1
            · obtain ⟨m, rfl⟩ : ∃ m : Nat, most = (m : Int) := ⟨most.toNat, by omega⟩
              obtain ⟨hp, _⟩ := all_get (by omega) h1
              rw [hp]; exact page_after_size HOKL.out
          have k0 := (hbl.cell (p := ⟨b, off + k * 3, none⟩) hB).trans q0
          have k1 := (hbl.cell (p := ⟨b, off + k * 3 + 1, none⟩) hB).trans q1
          have k2 := (hbl.cell (p := ⟨b, off + k * 3 + 2, none⟩) hB).trans q2
          obtain ⟨pa, pc, rfl, _⟩ := hS.form' rfl
          obtain ⟨q9, hq9⟩ : ∃ q9, q9 = p.list.length := ⟨_, rfl⟩
          rw [← hq9] at k0
          obtain ⟨pf, hpf⟩ : ∃ pf, pf = p.after := ⟨_, rfl⟩
          rw [← hpf] at k1 hps
          have hkI : (k : Int) < (n : Int) := by omega
          have hzr := hbl.size
          cases hpm : p.more with
          | false =>
            rw [hpm] at k2
            have HT := Lib.hid (token_any (.slice pa q9 pc) pf false (wr.alloc (.cells #[.slice pa q9 pc, .string pf, .bool false] 26)) (by omega))
            have hte : (kit.str (tk.token (kit.bytes pf) false)).toList.isEmpty = true := by rw [ByteArray.toList_eq]; rfl
            have hte2 : (kit.str (tk.token (kit.bytes pf) false)).toList = [] := by rw [ByteArray.toList_eq]; rfl
            clear hj q0 q1 q2 hS hpm hpf hq9
            go_wp2_with fail
            refine HT.out.mono ?_
            rintro e w5 ⟨rfl, hb5⟩
            have p2 : w5.cell? ⟨wr.heap.size, 2, none⟩ = some (.bool false) := later (hb5.mono (by simp)) rfl
            have hbl5 := (hbl.alloc hzr (.cells #[.slice pa q9 pc, .string pf, .bool false] 26)).trans (hb5.mono (by simp; omega))
            go_wp2
            go_roundw
            case rel => exact ⟨k + 1, by go_num, by omega, hbl5⟩
            case measure => simp [intOf]; omega
          | true =>
            rw [hpm] at k2
            have HT := Lib.hid (token_any (.slice pa q9 pc) pf true (wr.alloc (.cells #[.slice pa q9 pc, .string pf, .bool true] 26)) (by omega))
            have htl : (tk.token (kit.bytes pf) true).length = 1 + 2 * pf.size := by simp [tk.token, tk.enc_len, kit.bytes_len]; omega
            obtain ⟨y, hy⟩ : ∃ y, y = tk.read (tk.token (kit.bytes pf) true) := ⟨_, rfl⟩
            obtain ⟨yl, yq⟩ := y
            have HRT : Hid (∀ W : World, Calls Try.prog 17 #[.string (kit.str (tk.token (kit.bytes pf) true))] W (fun e W' => e = .returned (.tuple #[.string (kit.str yl), .int .i64 (yq : Int)]) ∧ Below W.heap.size W W')) := fun W => by
              have := read_any (kit.str (tk.token (kit.bytes pf) true)) W (by rw [kit.str_size, htl]; omega)
              rw [kit.bytes_str _ (by
                intro z hz
                simp only [tk.token, if_true, List.mem_cons] at hz
                rcases hz with rfl | hz
                · omega
                · exact tk.enc_lt (kit.bytes_lt pf) z hz), ← hy] at this
              exact this
            clear hj q0 q1 q2 hS hpm hpf hq9
            by_cases h6 : pf.size ≤ 600
            · have hy2 : (yl, yq) = (kit.bytes pf, 0) := by rw [hy]; exact tk.read_token (kit.bytes_lt pf) (by rw [kit.bytes_len]; exact h6)
              obtain ⟨rfl, rfl⟩ := Prod.mk.inj hy2
              have HSB := Lib.hid (kit.str_bytes pf)
              rw [HSB.out] at HRT
              clear hy hy2 htl
              go_wp2_with fail
              refine HT.out.mono ?_
              rintro e w5 ⟨rfl, hb5⟩
              have hb5' : Below (wr.heap.size + 1) (wr.alloc (.cells #[.slice pa q9 pc, .string pf, .bool true] 26)) w5 := hb5.mono (by simp)
              have p2 : w5.cell? ⟨wr.heap.size, 2, none⟩ = some (.bool true) := later hb5' rfl
              go_wp2_with fail
              refine (HRT.out _).mono ?_
              rintro e w6 ⟨rfl, hb6⟩
              have hz6 : wr.heap.size + 1 ≤ w5.heap.size := by have := hb5.size; simpa using this
              have hb56 := hb5'.trans (hb6.mono hz6)
              have p1 : w6.cell? ⟨wr.heap.size, 1, none⟩ = some (.string pf) := later hb56 rfl
              have hbl6 := (hbl.alloc hzr (.cells #[.slice pa q9 pc, .string pf, .bool true] 26)).trans (hb56.mono (by omega))
              clear p2 hb5 hb5' hb6 hb56
              go_wp2
              go_roundw
              case rel => exact ⟨k + 1, by go_num, by omega, hbl6⟩
              case measure => simp [intOf]; omega
            · clear hy htl
              go_wp2_with fail
              refine HT.out.mono ?_
              rintro e w5 ⟨rfl, hb5⟩
              have hb5' : Below (wr.heap.size + 1) (wr.alloc (.cells #[.slice pa q9 pc, .string pf, .bool true] 26)) w5 := hb5.mono (by simp)
              have p2 : w5.cell? ⟨wr.heap.size, 2, none⟩ = some (.bool true) := later hb5' rfl
              go_wp2_with fail
              refine (HRT.out _).mono ?_
              rintro e w6 ⟨rfl, hb6⟩
              have hz6 : wr.heap.size + 1 ≤ w5.heap.size := by have := hb5.size; simpa using this
              have hb56 := hb5'.trans (hb6.mono hz6)
              have p1 : w6.cell? ⟨wr.heap.size, 1, none⟩ = some (.string pf) := later hb56 rfl
              have hbl6 := (hbl.alloc hzr (.cells #[.slice pa q9 pc, .string pf, .bool true] 26)).trans (hb56.mono (by omega))
              clear p2 hb5 hb5' hb6 hb56
              go_wp2
              go_roundw
              case rel => exact ⟨k + 1, by go_num, by omega, hbl6⟩
              case measure => simp [intOf]; omega
        · have hb0 : Below w.heap.size w wr := HE1.out.1.trans (hbl.mono HE1.out.1.size)
          go_wp2_with fail
          refine (HRS.out _).mono ?_
          rintro e w3 ⟨rfl, hb3⟩
          have hb30 := hb0.trans (hb3.mono hb0.size)
          by_cases hq0 : q = 0
          · have hXs := HXS.out hq0
            have HT : Hid (Calls Try.prog 19 #[.agg #[.slice none 0 0, .string X, .bool true]] w3 (fun e W' => e = .returned (.string s) ∧ Below w3.heap.size w3 W')) := by
              have h9 := token_any (.slice none 0 0) X true w3 hXs
              unfold Txt at h9
              rw [HTS.out hq0] at h9
              exact h9
            subst hq0
            go_wp2_with fail
            refine HT.out.mono ?_
            rintro e w4 ⟨rfl, hb4⟩
            have hb40 := hb30.trans (hb4.mono hb30.size)
            go_wp2_with fail
            refine (awake_any _).mono ?_
            rintro e w5 ⟨rfl, hb⟩
            have hfin := hb40.trans (hb.mono hb40.size)
            go_wp2
            go_ret
            exact ⟨rfl, hfin⟩
          · have hq0I : ((q : Int) == 0) = false := beq_eq_false_iff_ne.2 (by omega)
            clear hq0
            go_wp2_with fail
            refine (awake_any _).mono ?_
            rintro e w5 ⟨rfl, hb⟩
            have hfin := hb30.trans (hb.mono hb30.size)
            go_wp2
            go_ret
            exact ⟨rfl, hfin⟩
end Go.Proofs.Ytilnmfbimfmacaa
