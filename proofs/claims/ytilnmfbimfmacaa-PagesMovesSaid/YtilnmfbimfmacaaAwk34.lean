/- The law's own example. -/
import Derived.Test.YtilnmfbimfmacaaEnvS
namespace Go.Proofs.Ytilnmfbimfmacaa
open Go.RowKit Go.ChangeShapes Go.Joins cl pg

abbrev tA : ByteArray := { data := #[97] }
abbrev tB : ByteArray := { data := #[98] }
abbrev tC : ByteArray := { data := #[99] }
def abc : List ByteArray := [tA, tB, tC]
theorem lt_of (a b : ByteArray) (h : Op.bytesLess a.data.toList b.data.toList = true) : lt a b = true := by
  unfold lt; rw [ByteArray.toList_eq, ByteArray.toList_eq]; exact h
theorem abc_ris : Ris abc := by
  have h1 : lt tA tB = true := lt_of _ _ (by decide)
  have h2 : lt tA tC = true := lt_of _ _ (by decide)
  have h3 : lt tB tC = true := lt_of _ _ (by decide)
  unfold Ris abc
  simp [h1, h2, h3]
theorem abc_ok : okL abc := ⟨abc_ris, by intro s hs; simp [abc] at hs; rcases hs with rfl | rfl | rfl <;> decide, by decide, by intro s hs; simp [abc] at hs; rcases hs with rfl | rfl | rfl <;> decide⟩
theorem abc1 : cut abc .empty 2 = ⟨[tA, tB], tB, true⟩ :=
  (cut_at (a := .empty) (most := 2) (m := 2) (k := 0) rfl (by decide) (by decide) (by rw [beh_empty abc_ok])).trans rfl
theorem abc2 : cut abc tB 2 = ⟨[tC], tC, false⟩ :=
  (cut_at (a := tB) (most := 2) (m := 2) (k := 1) rfl (by decide) (by decide) (show beh abc tB = 1 * 2 from beh_elem (t := 2) abc_ris (by decide) (by decide))).trans rfl
theorem tok_b (W : World) : Calls Try.prog 17 #[.string (kit.str (tk.token (kit.bytes tB) true))] W (fun e W' => e = .returned (.tuple #[.string tB, .int .i64 0]) ∧ Below W.heap.size W W') := by
  have h := read_any (kit.str (tk.token (kit.bytes tB) true)) W (by rw [kit.str_size]; decide)
  rw [kit.bytes_str _ (by decide), tk.read_token (by decide) (by decide)] at h
  exact h

set_option maxHeartbeats 6400000 in
set_option maxRecDepth 100000 in
theorem awake_any (w : World) :
    Calls Try.prog 9 #[] w (Said true w) := by
  have E0 : Env w w [] := ⟨Below.refl _ _, fun p hp => by cases hp⟩
  have E1 := E0.lit abc #[.string tA, .string tB, .string tC] 9 (w.heap.size) rfl rfl (by decide)
  go_enter Try.func9, Try.ntmps9
  go_wp2_with fail
  refine (ccut E1 (.head _) abc_ris (by decide) .empty 2 abc1).mono ?_
  rintro e W1 ⟨v1, rfl, F1, hb1⟩
  clear E0 E1 hb1
  obtain ⟨a1, c1, rfl⟩ := F1.form (n := 2) (.head _) rfl
  have E2 := (F1.alloc (.cells #[.slice a1 2 c1, .string tB, .bool true] 26)).lit abc #[.string tA, .string tB, .string tC] 9 (W1.heap.size + 1) (by simp) rfl (by decide)
  have HP0 : Hid (∀ W : World, Below (W1.heap.size + 1) ((W1.alloc (.cells #[.slice a1 2 c1, .string tB, .bool true] 26)).alloc (.cells #[.string tA, .string tB, .string tC] 9)) W → W.cell? ⟨W1.heap.size, 0, none⟩ = some (.slice a1 2 c1) ∧ W.cell? ⟨W1.heap.size, 1, none⟩ = some (.string tB) ∧ W.cell? ⟨W1.heap.size, 2, none⟩ = some (.bool true)) := fun W hb => by
    have hb' : Below (W1.heap.size + 1) (W1.alloc (.cells #[.slice a1 2 c1, .string tB, .bool true] 26)) W := ((Below.refl _ _).alloc (by simp) _).trans hb
    exact ⟨later hb' rfl, later hb' rfl, later hb' rfl⟩
  go_wp2_with fail
  refine (ccut E2 (.head _) abc_ris (by decide) tB 2 abc2).mono ?_
  rintro e W2 ⟨v2, rfl, F2, hb2⟩
  have hz2 := hb2.size
  simp only [World.size_alloc] at hz2
  have hb2' : Below (W1.heap.size + 1) ((W1.alloc (.cells #[.slice a1 2 c1, .string tB, .bool true] 26)).alloc (.cells #[.string tA, .string tB, .string tC] 9)) W2 := hb2.mono (by simp)
  clear F1 E2
  obtain ⟨a2, c2, rfl⟩ := F2.form (n := 1) (.head _) rfl
  obtain ⟨p0, p1, p2⟩ := HP0.out W2 hb2'
  have g0 : W1.heap.size < W2.heap.size := by omega
  have E3 := F2.alloc (.cells #[.slice a2 1 c2, .string tC, .bool false] 26)
  go_wp2_with fail
  refine (token_any (.slice a1 2 c1) tB true _ (by decide)).mono ?_
  rintro e W3 ⟨rfl, hb3⟩
  have hz3 := hb3.size
  simp only [World.size_alloc] at hz3
  have E4 := E3.step hb3
  have hb3' : Below (W2.heap.size + 1) (W2.alloc (.cells #[.slice a2 1 c2, .string tC, .bool false] 26)) W3 := hb3.mono (by simp)
  have HQ0 : Hid (∀ W : World, Below W3.heap.size W3 W → (W.cell? ⟨W2.heap.size, 0, none⟩ = some (.slice a2 1 c2) ∧ W.cell? ⟨W2.heap.size, 1, none⟩ = some (.string tC) ∧ W.cell? ⟨W2.heap.size, 2, none⟩ = some (.bool false)) ∧ (W.cell? ⟨W1.heap.size, 0, none⟩ = some (.slice a1 2 c1) ∧ W.cell? ⟨W1.heap.size, 1, none⟩ = some (.string tB) ∧ W.cell? ⟨W1.heap.size, 2, none⟩ = some (.bool true))) := fun W hb => by
    have hbW := hb3'.trans (hb.mono hz3)
    exact ⟨⟨later hbW rfl, later hbW rfl, later hbW rfl⟩, HP0.out W (hb2'.trans (((Below.refl _ _).alloc (by omega) _).trans (hbW.mono (by omega))))⟩
  clear p0 p1 p2 E3 hb2 hb2' hb3 hb3' F2
  go_wp2_with fail
  refine (tok_b _).mono ?_
  rintro e W4 ⟨rfl, hb4⟩
  have hz4 := hb4.size
  have E5 := (E4.step hb4).lit [tA, tB] #[.string tA, .string tB] 9 (W4.heap.size) rfl rfl (by decide)
  obtain ⟨⟨q0, q1, q2⟩, p0, p1, p2⟩ := HQ0.out W4 hb4
  have g1 : W1.heap.size < W4.heap.size := by omega
  have g2 : W2.heap.size < W4.heap.size := by omega
  clear E4
  go_wp2_with fail
  refine (ctexts E5 (.tail _ (.tail _ (.tail _ (.head _)))) (.head _) rfl).mono ?_
  rintro e W5 ⟨rfl, F5, hb5⟩
  have hz5 := hb5.size
  simp only [World.size_alloc] at hz5
  have hb45 : Below W3.heap.size W3 W5 := (hb4.trans (((Below.refl _ _).alloc hz4 _).trans (hb5.mono (by simp; omega))))
  obtain ⟨⟨r0, r1, r2⟩, s0, s1, s2⟩ := HQ0.out W5 hb45
  have g3 : W1.heap.size < W5.heap.size := by omega
  have g4 : W2.heap.size < W5.heap.size := by omega
  have E6 := F5.lit [tC] #[.string tC] 9 (W5.heap.size) rfl rfl (by decide)
  clear q0 q1 q2 p0 p1 p2 E5 F5
  go_wp2_with fail
  refine (ctexts E6 (.tail _ (.tail _ (.head _))) (.head _) rfl).mono ?_
  rintro e W6 ⟨rfl, F6, hb6⟩
  have hb46 : Below W3.heap.size W3 W6 := hb45.trans (((Below.refl _ _).alloc (by omega) _).trans (hb6.mono (by simp; omega)))
  obtain ⟨⟨t0, t1, t2⟩, _, _, _⟩ := HQ0.out W6 hb46
  clear r0 r1 r2 s0 s1 s2 E6
  go_wp2_with fail
  refine (token_any (.slice a2 1 c2) tC false _ (by decide)).mono ?_
  rintro e W7 ⟨rfl, hb7⟩
  have hfin := (F6.step hb7).1
  have hte : (kit.str (tk.token (kit.bytes tC) false)).toList.isEmpty = true := by rw [ByteArray.toList_eq]; rfl
  clear t0 t1 t2 F6 hb46 hb45 hb7 hb6 hb5 hb4 HQ0 HP0
  go_wp2
  go_ret
  exact ⟨rfl, hfin⟩
end Go.Proofs.Ytilnmfbimfmacaa
