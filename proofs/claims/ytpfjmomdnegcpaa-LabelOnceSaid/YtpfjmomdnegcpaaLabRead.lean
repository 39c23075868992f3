/- label: how a text is read; what the library's cut and trimming tell of it. No walk. -/
import Derived.Test.YtpfjmomdnegcpaaLabMath
import Derived.Lib.IndexMore
import Derived.Lib.Strings
namespace Go.Proofs.Ytpfjmomdnegcpaa.lm
open Go.RowKit

theorem bytes_map (s : ByteArray) : kit.bytes s = s.data.toList.map UInt8.toNat := rfl
theorem text_bytes {l : List Lab} {s : ByteArray} (h : textF l = (0, s)) : kit.bytes s = [123] ++ (behind l).drop 1 ++ [125] ∧ (∀ x ∈ l, good x = true) ∧ l ≠ [] := by
  obtain ⟨hc, he⟩ := text_iff.1 h
  obtain ⟨_, _, _, hg, hne⟩ := canon_form hc
  refine ⟨?_, hg.1, hne⟩
  rw [he, kit.bytes_str _ (textB_lt l)]; rfl
/-- the first place of the sign at a name's end -/
theorem index_name : ∀ (a : List UInt8) (r : List UInt8), (61 : UInt8) ∉ a → Lib.index (a ++ 61 :: 34 :: r) [61, 34] = a.length := by
  intro a
  induction a with
  | nil =>
    intro r _
    show Lib.index (61 :: 34 :: r) [61, 34] = _
    unfold Lib.index
    rw [if_pos (by simp [List.isPrefixOf])]
    rfl
  | cons b a ih =>
    intro r h
    have hb : b ≠ 61 := fun e => h (by rw [e]; exact List.mem_cons_self)
    have h2 := ih r (fun e => h (List.mem_cons_of_mem _ e))
    show Lib.index (b :: (a ++ 61 :: 34 :: r)) [61, 34] = _
    unfold Lib.index
    rw [if_neg (by simp [List.isPrefixOf]; exact fun e => absurd e.symm hb), h2]
    rw [if_neg (by simp <;> omega)]
    simp
/-- what the cut at a name's end tells -/
theorem cut_tells (s : ByteArray) (N A : ByteArray) (B : Bool) (hN : N = ⟨(Lib.cut s.data.toList [61, 34]).1.toArray⟩) (hA : A = ⟨(Lib.cut s.data.toList [61, 34]).2.1.toArray⟩) (hB : B = (Lib.cut s.data.toList [61, 34]).2.2) :
    N.size ≤ s.size ∧ (B = true → A.size + 2 ≤ s.size) ∧ ∀ (x0 : Lab) (t : List Nat), good x0 = true → kit.bytes s = oneT x0 ++ t → B = true ∧ N = x0.1 ∧ kit.bytes A = escN (kit.bytes x0.2) ++ 34 :: t := by
  have hss : s.size = s.data.toList.length := by rw [Array.length_toList]; rfl
  unfold Lib.cut at hN hA hB
  refine ⟨?_, ?_, ?_⟩
  · rw [hN]
    split
    · show (List.take _ _).toArray.size ≤ _
      rw [List.size_toArray, List.length_take]; omega
    · show (s.data.toList).toArray.size ≤ _
      rw [List.size_toArray]; omega
  · intro hb
    rw [hB] at hb
    split at hb
    · rename_i h0
      have := Lib.index_room s.data.toList [61, 34] h0
      rw [hA, if_pos h0]
      show (List.drop _ _).toArray.size + 2 ≤ _
      rw [List.size_toArray, List.length_drop]
      simp only [List.length_cons, List.length_nil] at this ⊢
      omega
    · cases hb
  · intro x0 t hg hs
    have hsp : s.data.toList = x0.1.data.toList ++ 61 :: 34 :: ((escN (kit.bytes x0.2) ++ 34 :: t).map UInt8.ofNat) := by
      have h1 : (kit.bytes s).map UInt8.ofNat = s.data.toList := by rw [bytes_map, List.map_map]; conv => rhs; rw [← List.map_id s.data.toList]
                                                                    exact List.map_congr_left fun x _ => by simp
      have h2 : (kit.bytes x0.1).map UInt8.ofNat = x0.1.data.toList := by rw [bytes_map, List.map_map]; conv => rhs; rw [← List.map_id x0.1.data.toList]
                                                                          exact List.map_congr_left fun x _ => by simp
      rw [← h1, hs, ← h2]
      unfold oneT
      simp
    have h61 : (61 : UInt8) ∉ x0.1.data.toList := fun hm => good_no61 hg (List.mem_map.2 ⟨61, hm, rfl⟩)
    have hi := index_name x0.1.data.toList ((escN (kit.bytes x0.2) ++ 34 :: t).map UInt8.ofNat) h61
    rw [← hsp] at hi
    have h0 : 0 ≤ Lib.index s.data.toList [61, 34] := by rw [hi]; omega
    rw [if_pos h0] at hN hA hB
    rw [hi, Int.toNat_natCast] at hN hA
    refine ⟨hB, ?_, ?_⟩
    · rw [hN]
      refine ByteArray.ext ?_
      show (List.take _ _).toArray = _
      rw [hsp]
      exact congrArg List.toArray (List.take_left' rfl)
    · have hlt : ∀ x ∈ escN (kit.bytes x0.2) ++ 34 :: t, x < 256 := fun x hx => kit.bytes_lt s x (by
        rw [hs]
        unfold oneT
        rcases List.mem_append.1 hx with h | h
        · simp [h]
        · rcases List.mem_cons.1 h with rfl | h
          · simp
          · simp [h])
      rw [hA]
      show (List.drop _ _).toArray.toList.map UInt8.toNat = _
      rw [hsp, List.drop_append]
      have e1 : x0.1.data.toList.drop (x0.1.data.toList.length + ([61, 34] : List UInt8).length) = ([] : List UInt8) := List.drop_eq_nil_of_le (by simp)
      have e2 : x0.1.data.toList.length + ([61, 34] : List UInt8).length - x0.1.data.toList.length = 2 := by simp
      rw [e1, e2]
      show List.map UInt8.toNat (List.map UInt8.ofNat _) = _
      rw [List.map_map]
      conv => rhs; rw [← List.map_id (escN (kit.bytes x0.2) ++ 34 :: t)]
      exact List.map_congr_left fun x hx => by simpa using Nat.mod_eq_of_lt (hlt x hx)
/-- .. without a comma ahead -/
def noComma (t : List Nat) : List Nat := if t.head? = some 44 then t.drop 1 else t
theorem trim_tells (A : ByteArray) : kit.bytes ⟨(Lib.trimPrefix A.data.toList [44]).toArray⟩ = noComma (kit.bytes A) ∧ (⟨(Lib.trimPrefix A.data.toList [44]).toArray⟩ : ByteArray).size ≤ A.size := by
  have hss : A.size = A.data.toList.length := by rw [Array.length_toList]; rfl
  have hsz : ∀ l : List UInt8, (⟨l.toArray⟩ : ByteArray).size = l.length := fun l => List.size_toArray
  rw [hsz, hss]
  show List.map UInt8.toNat _ = noComma (List.map UInt8.toNat A.data.toList) ∧ _
  unfold Lib.trimPrefix Lib.hasPrefix noComma
  cases A.data.toList with
  | nil => exact ⟨rfl, Nat.le_refl _⟩
  | cons x r =>
    by_cases hx : x = 44
    · subst hx
      exact ⟨rfl, Nat.le_succ _⟩
    · have h1 : ([44] : List UInt8).isPrefixOf (x :: r) = false := by
        simp [List.isPrefixOf]; exact fun e => hx e.symm
      have h2 : ¬ x.toNat = 44 := fun e => hx (UInt8.toNat_inj.1 e)
      rw [h1]
      refine ⟨?_, Nat.le_refl _⟩
      show List.map UInt8.toNat (x :: r) = _
      show List.map UInt8.toNat (x :: r) = _
      have h3 : ¬ (List.map UInt8.toNat (x :: r)).head? = some 44 := fun e => h2 (by simpa using e)
      rw [if_neg h3]
theorem bytes_tail (A : ByteArray) (i : Nat) : kit.bytes (A.extract i A.size) = (kit.bytes A).drop i := by
  show List.map UInt8.toNat (A.extract i A.size).data.toList = (List.map UInt8.toNat A.data.toList).drop i
  rw [ByteArray.data_extract, Array.toList_extract, List.extract_eq_take_drop, List.map_take, List.map_drop, List.take_of_length_le]
  rw [List.length_drop, List.length_map, Array.length_toList]
  exact Nat.le_refl _
theorem esc_nil : escN [] = [] := rfl
theorem esc_cons (x : Nat) (r : List Nat) : escN (x :: r) = esc1 x ++ escN r := rfl
/-- one step in a value: what stands there -/
theorem esc_at {v t : List Nat} {c : Nat} {r : List Nat} (h : escN v ++ 34 :: t = c :: r) :
    (c = 34 → v = [] ∧ r = t) ∧ (c ≠ 34 → c ≠ 92 → ∃ v', v = c :: v' ∧ r = escN v' ++ 34 :: t) ∧ (c = 92 → ∃ y v' r', r = y :: r' ∧ v = y :: v' ∧ r' = escN v' ++ 34 :: t ∧ (y = 34 ∨ y = 92)) := by
  cases v with
  | nil =>
    rw [esc_nil, List.nil_append, List.cons.injEq] at h
    obtain ⟨rfl, rfl⟩ := h
    exact ⟨fun _ => ⟨rfl, rfl⟩, fun e => absurd rfl e, fun e => absurd e (by decide)⟩
  | cons y v' =>
    rw [esc_cons] at h
    unfold esc1 at h
    split at h
    · rename_i hy
      simp only [List.cons_append, List.nil_append, List.cons.injEq] at h
      obtain ⟨rfl, rfl⟩ := h
      exact ⟨fun e => absurd e (by decide), fun _ e => absurd rfl e, fun _ => ⟨y, v', _, rfl, rfl, rfl, hy⟩⟩
    · rename_i hy
      simp only [List.cons_append, List.nil_append, List.cons.injEq] at h
      obtain ⟨rfl, rfl⟩ := h
      exact ⟨fun e => absurd (Or.inl e) hy, fun _ _ => ⟨v', rfl, rfl⟩, fun e => absurd (Or.inr e) hy⟩
end Go.Proofs.Ytpfjmomdnegcpaa.lm
