/- texts put together: LabRead, LabFirst, LabParse, MdExp, MdFit. -/
import Derived.Test.YthmnaemcpcdinaaGreatJu01
import Derived.Test.YthmnaemcpcdinaaGreatJu04
import Derived.Test.YthmnaemcpcdinaaGreatJu05
import Derived.Test.YthmnaemcpcdinaaGreatJu06
import Derived.Lib.IndexMore
import Derived.Lib.Strings
namespace Go.Proofs.YthmnaemcpcdinaaGreat.lm
open Go.RowKit
theorem bytes_map (s : ByteArray) : kit.bytes s = s.data.toList.map UInt8.toNat := rfl
theorem text_bytes {l : List Lab} {s : ByteArray} (h : textF l = (0, s)) : kit.bytes s = [123] ++ (behind l).drop 1 ++ [125] ∧ (∀ x ∈ l, good x = true) ∧ l ≠ [] := by
 obtain ⟨hc, he⟩ := text_iff.1 h
 obtain ⟨_, _, _, hg, hne⟩ := canon_form hc
 refine ⟨?_, hg.1, hne⟩
 rw [he, kit.bytes_str _ (textB_lt l)]; rfl
theorem index_name : ∀ (a : List UInt8) (r : List UInt8), (61 : UInt8) ∉ a → Lib.index (a ++ 61 :: 34 :: r) [61, 34] = a.length := by
 intro a
 induction a with
 | nil =>
  intro r _
  show Lib.index (61 :: 34 :: r) [61, 34] = _
  unfold Lib.index
  rw [if_pos (by simp [List.isPrefixOf])]
  rfl
 | cons b a ih =>
  intro r h
  have hb : b ≠ 61 := fun e => h (by rw [e]; exact List.mem_cons_self)
  have h2 := ih r (fun e => h (List.mem_cons_of_mem _ e))
  show Lib.index (b :: (a ++ 61 :: 34 :: r)) [61, 34] = _
  unfold Lib.index
  rw [if_neg (by simp [List.isPrefixOf]; exact fun e => absurd e.symm hb), h2]
  rw [if_neg (by simp <;> omega)]
  simp
theorem cut_tells (s : ByteArray) (N A : ByteArray) (B : Bool) (hN : N = ⟨(Lib.cut s.data.toList [61, 34]).1.toArray⟩) (hA : A = ⟨(Lib.cut s.data.toList [61, 34]).2.1.toArray⟩) (hB : B = (Lib.cut s.data.toList [61, 34]).2.2) :
    N.size ≤ s.size ∧ (B = true → A.size + 2 ≤ s.size) ∧ ∀ (x0 : Lab) (t : List Nat), good x0 = true → kit.bytes s = oneT x0 ++ t → B = true ∧ N = x0.1 ∧ kit.bytes A = escN (kit.bytes x0.2) ++ 34 :: t := by
  have hss : s.size = s.data.toList.length := by rw [Array.length_toList]; rfl
  unfold Lib.cut at hN hA hB
  refine ⟨?_, ?_, ?_⟩
  · rw [hN]
    split
    · show (List.take _ _).toArray.size ≤ _
      rw [List.size_toArray, List.length_take]; omega
    · show (s.data.toList).toArray.size ≤ _
      rw [List.size_toArray]; omega
  · intro hb
    rw [hB] at hb
    split at hb
    · rename_i h0
      have := Lib.index_room s.data.toList [61, 34] h0
      rw [hA, if_pos h0]
      show (List.drop _ _).toArray.size + 2 ≤ _
      rw [List.size_toArray, List.length_drop]
      simp only [List.length_cons, List.length_nil] at this ⊢
      omega
    · cases hb
  · intro x0 t hg hs
    have hsp : s.data.toList = x0.1.data.toList ++ 61 :: 34 :: ((escN (kit.bytes x0.2) ++ 34 :: t).map UInt8.ofNat) := by
      have h1 : (kit.bytes s).map UInt8.ofNat = s.data.toList := by rw [bytes_map, List.map_map]; conv => rhs; rw [← List.map_id s.data.toList]
                                                                    exact List.map_congr_left fun x _ => by simp
      have h2 : (kit.bytes x0.1).map UInt8.ofNat = x0.1.data.toList := by rw [bytes_map, List.map_map]; conv => rhs; rw [← List.map_id x0.1.data.toList]
                                                                          exact List.map_congr_left fun x _ => by simp
      rw [← h1, hs, ← h2]
      unfold oneT
      simp
    have h61 : (61 : UInt8) ∉ x0.1.data.toList := fun hm => good_no61 hg (List.mem_map.2 ⟨61, hm, rfl⟩)
    have hi := index_name x0.1.data.toList ((escN (kit.bytes x0.2) ++ 34 :: t).map UInt8.ofNat) h61
    rw [← hsp] at hi
    have h0 : 0 ≤ Lib.index s.data.toList [61, 34] := by rw [hi]; omega
    rw [if_pos h0] at hN hA hB
    rw [hi, Int.toNat_natCast] at hN hA
    refine ⟨hB, ?_, ?_⟩
    · rw [hN]
      refine ByteArray.ext ?_
      show (List.take _ _).toArray = _
      rw [hsp]
      exact congrArg List.toArray (List.take_left' rfl)
    · have hlt : ∀ x ∈ escN (kit.bytes x0.2) ++ 34 :: t, x < 256 := fun x hx => kit.bytes_lt s x (by
        rw [hs]
        unfold oneT
        rcases List.mem_append.1 hx with h | h
        · simp [h]
        · rcases List.mem_cons.1 h with rfl | h
          · simp
          · simp [h])
      rw [hA]
      show (List.drop _ _).toArray.toList.map UInt8.toNat = _
      rw [hsp, List.drop_append]
      have e1 : x0.1.data.toList.drop (x0.1.data.toList.length + ([61, 34] : List UInt8).length) = ([] : List UInt8) := List.drop_eq_nil_of_le (by simp)
      have e2 : x0.1.data.toList.length + ([61, 34] : List UInt8).length - x0.1.data.toList.length = 2 := by simp
      rw [e1, e2]
      show List.map UInt8.toNat (List.map UInt8.ofNat _) = _
      rw [List.map_map]
      conv => rhs; rw [← List.map_id (escN (kit.bytes x0.2) ++ 34 :: t)]
      exact List.map_congr_left fun x hx => by simpa using Nat.mod_eq_of_lt (hlt x hx)
def noComma (t : List Nat) : List Nat := if t.head? = some 44 then t.drop 1 else t
theorem trim_tells (A : ByteArray) : kit.bytes ⟨(Lib.trimPrefix A.data.toList [44]).toArray⟩ = noComma (kit.bytes A) ∧ (⟨(Lib.trimPrefix A.data.toList [44]).toArray⟩ : ByteArray).size ≤ A.size := by
 have hss : A.size = A.data.toList.length := by rw [Array.length_toList]; rfl
 have hsz : ∀ l : List UInt8, (⟨l.toArray⟩ : ByteArray).size = l.length := fun l => List.size_toArray
 rw [hsz, hss]
 show List.map UInt8.toNat _ = noComma (List.map UInt8.toNat A.data.toList) ∧ _
 unfold Lib.trimPrefix Lib.hasPrefix noComma
 cases A.data.toList with
 | nil => exact ⟨rfl, Nat.le_refl _⟩
 | cons x r =>
  by_cases hx : x = 44
  ·
   subst hx
   exact ⟨rfl, Nat.le_succ _⟩
  ·
   have h1 : ([44] : List UInt8).isPrefixOf (x :: r) = false := by
    simp [List.isPrefixOf]; exact fun e => hx e.symm
   have h2 : ¬ x.toNat = 44 := fun e => hx (UInt8.toNat_inj.1 e)
   rw [h1]
   refine ⟨?_, Nat.le_refl _⟩
   show List.map UInt8.toNat (x :: r) = _
   show List.map UInt8.toNat (x :: r) = _
   have h3 : ¬ (List.map UInt8.toNat (x :: r)).head? = some 44 := fun e => h2 (by simpa using e)
   rw [if_neg h3]
theorem bytes_tail (A : ByteArray) (i : Nat) : kit.bytes (A.extract i A.size) = (kit.bytes A).drop i := by
 show List.map UInt8.toNat (A.extract i A.size).data.toList = (List.map UInt8.toNat A.data.toList).drop i
 rw [ByteArray.data_extract, Array.toList_extract, List.extract_eq_take_drop, List.map_take, List.map_drop, List.take_of_length_le]
 rw [List.length_drop, List.length_map, Array.length_toList]
 exact Nat.le_refl _
theorem esc_nil : escN [] = [] := rfl
theorem esc_cons (x : Nat) (r : List Nat) : escN (x :: r) = esc1 x ++ escN r := rfl
theorem esc_at {v t : List Nat} {c : Nat} {r : List Nat} (h : escN v ++ 34 :: t = c :: r) :
  (c = 34 → v = [] ∧ r = t) ∧ (c ≠ 34 → c ≠ 92 → ∃ v', v = c :: v' ∧ r = escN v' ++ 34 :: t) ∧ (c = 92 → ∃ y v' r', r = y :: r' ∧ v = y :: v' ∧ r' = escN v' ++ 34 :: t ∧ (y = 34 ∨ y = 92)) := by
 cases v with
 | nil =>
  rw [esc_nil, List.nil_append, List.cons.injEq] at h
  obtain ⟨rfl, rfl⟩ := h
  exact ⟨fun _ => ⟨rfl, rfl⟩, fun e => absurd rfl e, fun e => absurd e (by decide)⟩
 | cons y v' =>
  rw [esc_cons] at h
  unfold esc1 at h
  split at h
  ·
   rename_i hy
   simp only [List.cons_append, List.nil_append, List.cons.injEq] at h
   obtain ⟨rfl, rfl⟩ := h
   exact ⟨fun e => absurd e (by decide), fun _ e => absurd rfl e, fun _ => ⟨y, v', _, rfl, rfl, rfl, hy⟩⟩
  ·
   rename_i hy
   simp only [List.cons_append, List.nil_append, List.cons.injEq] at h
   obtain ⟨rfl, rfl⟩ := h
   exact ⟨fun e => absurd (Or.inl e) hy, fun _ _ => ⟨v', rfl, rfl⟩, fun e => absurd (Or.inr e) hy⟩
end Go.Proofs.YthmnaemcpcdinaaGreat.lm
namespace Go.Proofs.YthmnaemcpcdinaaGreat
open Go.RowKit Go.ChangeShapes cl
def MX (w : World) : Prop := ∃ m : Int, w.cell? ⟨0, 0, none⟩ = some (.int .i64 m)
theorem MX.next {w w' : World} (h : MX w) (hb : Below w.heap.size w w') : MX w' := by
 obtain ⟨m, hm⟩ := h
 exact ⟨m, (hb.cell (p := ⟨0, 0, none⟩) (World.block_lt_of_cell? _ _ hm)).trans hm⟩
def FirstP (s : ByteArray) (w : World) (e : Ending) (w' : World) : Prop := ∃ (x : Lab) (left : ByteArray) (ok : Bool), e = .returned (.tuple #[.agg #[.string x.1, .string x.2], .string left, .bool ok]) ∧ Below w.heap.size w w' ∧
 (ok = true → left.size < s.size ∧ x.1.size ≤ s.size ∧ x.2.size ≤ s.size) ∧ ∀ x0 t, lm.good x0 = true → kit.bytes s = lm.oneT x0 ++ t → ok = true ∧ x = x0 ∧ kit.bytes left = lm.noComma t
theorem first_bad {s : ByteArray} {w W : World} (h : ∀ x0 t, lm.good x0 = true → kit.bytes s = lm.oneT x0 ++ t → False) (hb : Below w.heap.size w W) : FirstP s w (.returned (.tuple #[.agg #[.string ⟨#[]⟩, .string ⟨#[]⟩], .string ⟨#[]⟩, .bool false])) W :=
 ⟨(⟨#[]⟩, ⟨#[]⟩), ⟨#[]⟩, false, rfl, hb, fun e => absurd e (by decide), fun x0 t hg hs => (h x0 t hg hs).elim⟩
set_option maxHeartbeats 3200000 in
set_option maxRecDepth 100000 in
theorem first_any (s : ByteArray) (w : World) (hs : s.size ≤ 600) (hm : MX w) :
  Calls Tryz.prog 71 #[.string s] w (FirstP s w) := by
 obtain ⟨m, hmc⟩ := hm
 have hz0 : 0 < w.heap.size := World.block_lt_of_cell? _ _ hmc
 obtain ⟨N, hN⟩ : ∃ N : ByteArray, N = ⟨(Lib.cut s.data.toList [61, 34]).1.toArray⟩ := ⟨_, rfl⟩
 obtain ⟨A, hA⟩ : ∃ A : ByteArray, A = ⟨(Lib.cut s.data.toList [61, 34]).2.1.toArray⟩ := ⟨_, rfl⟩
 obtain ⟨B, hB⟩ : ∃ B : Bool, B = (Lib.cut s.data.toList [61, 34]).2.2 := ⟨_, rfl⟩
 have htell := lm.cut_tells s N A B hN hA hB
 have hcut : ∀ W : World, W.cell? ⟨0, 0, none⟩ = some (.int .i64 m) → Calls Tryz.prog 100 #[.string s, .string ⟨#[61, 34]⟩] W fun e w' => e = .returned (.tuple #[.string N, .string A, .bool B]) ∧ ∃ n, w' = W.drewN n := fun W hW => by
  have := Tryz.strings_Cut s ⟨#[61, 34]⟩ m W (by omega) hW
  rw [hN, hA, hB]; exact this
 have hA0 : Below w.heap.size w (w.alloc (.cells #[.string ⟨#[]⟩, .string ⟨#[]⟩] 91)) := (Below.refl _ _).alloc (Nat.le_refl _) _
 have HC := Lib.hid (hcut (w.alloc (.cells #[.string ⟨#[]⟩, .string ⟨#[]⟩] 91)) ((hA0.cell (p := ⟨0, 0, none⟩) hz0).trans hmc))
 obtain ⟨t1, t2, t3⟩ := htell
 have HT := Lib.hid t3
 clear hN hA hB hcut t3 hmc
 by_cases hb : B = true
 rotate_left
 ·
  have hbf : B = false := by simpa using hb
  rw [hbf] at HC
  have HNO : Hid (∀ x0 t, lm.good x0 = true → kit.bytes s = lm.oneT x0 ++ t → False) := fun x0 t hg he => hb (HT.out x0 t hg he).1
  clear hb hbf
  go_enter Tryz.func71, Tryz.ntmps71
  go_wp2_with fail
  (with_reducible refine HC.out.mono ?_)
  rintro e w1 ⟨rfl, nq, rfl⟩
  have hb1 : Below (w.alloc (.cells #[.string ⟨#[]⟩, .string ⟨#[]⟩] 91)).heap.size (w.alloc (.cells #[.string ⟨#[]⟩, .string ⟨#[]⟩] 91)) ((w.alloc (.cells #[.string ⟨#[]⟩, .string ⟨#[]⟩] 91)).drewN nq) := below_drewN (Below.refl _ _) nq
  obtain ⟨c0, c1, f0, f1, hz1⟩ := two hb1
  have hbA := hA0.trans (hb1.mono (by simp))
  have HRET := Lib.hid (fun W (hb : Below w.heap.size w W) => first_bad HNO.out hb)
  have hset := (hbA.setCell (p := ⟨w.heap.size, 0, none⟩) (Nat.le_refl _) (.string ⟨#[]⟩)).setCell (p := ⟨w.heap.size, 1, none⟩) (Nat.le_refl _) (.string ⟨#[]⟩)
  have HR2 := Lib.hid (HRET.out _ hset)
  go_wp2
  refine bodyPost_ret (v := .tuple #[.agg #[.string ⟨#[]⟩, .string ⟨#[]⟩], .string ⟨#[]⟩, .bool false]) (by simp [results, Tryz.results71, go_sem]) rfl HR2.out
 rw [hb] at HC
 have hAs := t2 hb
 have HTT : Hid (∀ x0 t, lm.good x0 = true → kit.bytes s = lm.oneT x0 ++ t → N = x0.1 ∧ kit.bytes A = escN (kit.bytes x0.2) ++ 34 :: t) := fun x0 t hg he => (HT.out x0 t hg he).2
 have HNs := Lib.hid t1
 clear hb t1 t2
 go_enter Tryz.func71, Tryz.ntmps71
 go_wp2_with fail
 (with_reducible refine HC.out.mono ?_)
 rintro e w1 ⟨rfl, nq, rfl⟩
 have hb1 : Below (w.alloc (.cells #[.string ⟨#[]⟩, .string ⟨#[]⟩] 91)).heap.size (w.alloc (.cells #[.string ⟨#[]⟩, .string ⟨#[]⟩] 91)) ((w.alloc (.cells #[.string ⟨#[]⟩, .string ⟨#[]⟩] 91)).drewN nq) := below_drewN (Below.refl _ _) nq
 generalize hw1 : (w.alloc (.cells #[.string ⟨#[]⟩, .string ⟨#[]⟩] 91)).drewN nq = w1 at hb1 ⊢
 obtain ⟨c0, c1, f0, f1, hz1⟩ := two hb1
 have hbA := hA0.trans (hb1.mono (by simp))
 have hA6 : A.size ≤ 600 := by omega
 have HU := Lib.hid infoU8
 clear hw1 hb1
 go_wp2
 go_loopw [7, 8, 24, 38] (fun o i _ _ wr => ∃ (k : Nat) (val : List Nat), i = .int .i64 k ∧ k ≤ A.size ∧ val.length ≤ k ∧ Hid (wr.ownsRow w1.heap.size 5 1 o val.length (kit.u8s val)) ∧ Below w1.heap.size w1 wr ∧ Hid (∀ v0 t, kit.bytes A = escN v0 ++ 34 :: t → ∃ j, j ≤ v0.length ∧ val = v0.take j ∧ (kit.bytes A).drop k = escN (v0.drop j) ++ 34 :: t)) (fun _ i _ _ _ => A.size - (intOf i).toNat)
 case atStart => exact ⟨0, [], rfl, Nat.zero_le _, Nat.zero_le _, ⟨rfl, Or.inl ⟨rfl, rfl⟩⟩, Below.refl _ _, fun v0 t h => ⟨0, Nat.zero_le _, rfl, by simpa using h⟩⟩
 case round =>
  obtain ⟨k, val, rfl, hk, hvl, HO, hbl, HI⟩ := hrel
  have g0 := (hbl.cell (p := ⟨w.heap.size, 0, none⟩) hz1).trans c0
  have g1 := (hbl.cell (p := ⟨w.heap.size, 1, none⟩) hz1).trans c1
  have e0 := (hbl.frozen (p := ⟨w.heap.size, 0, none⟩) hz1).trans f0
  have e1 := (hbl.frozen (p := ⟨w.heap.size, 1, none⟩) hz1).trans f1
  have hz := hbl.size
  have hbw := hbA.trans (hbl.mono (by omega))
  by_cases hlt : k < A.size
  ·
   have hkI : (k : Int) < (A.size : Int) := by omega
   have HDR := Lib.hid (kit.bytes_drop A k hlt)
   by_cases h34 : (A[k]'hlt).toNat = 34
   ·
    have HB : Hid ((A[k]'hlt).toNat = 34) := h34
    have g34b : (((A[k]'hlt).toNat : Int) == 34) = true := by rw [h34]; rfl
    have hstr := fun q => kit.run_string (P := Tryz.prog) (src := 144) (dst := 9) Tryz.underlying144 Tryz.underlying5 Tryz.underlying9 (own_stay HO.out (below_drewN (Below.refl _ _) q))
    obtain ⟨LF, hLF⟩ : ∃ L : ByteArray, L = ⟨(Lib.trimPrefix (A.extract (k + 1) A.size).data.toList [44]).toArray⟩ := ⟨_, rfl⟩
    have htr := lm.trim_tells (A.extract (k + 1) A.size)
    rw [← hLF, lm.bytes_tail] at htr
    have hex : (A.extract (k + 1) A.size).size = A.size - (k + 1) := by rw [ByteArray.size_extract]; omega
    have HTP : Hid (∀ W : World, Calls Tryz.prog 101 #[.string (A.extract (k + 1) A.size), .string ⟨#[44]⟩] W fun e w' => e = .returned (.string LF) ∧ w' = W) := fun W => by
     have := Tryz.strings_TrimPrefix (A.extract (k + 1) A.size) ⟨#[44]⟩ W
     rw [hLF]; exact this
    obtain ⟨V, hV⟩ : ∃ V, V = kit.str val := ⟨_, rfl⟩
    rw [← hV] at hstr
    have hstr1 := kit.run_string (P := Tryz.prog) (w := wr.drew) (src := 144) (dst := 9) Tryz.underlying144 Tryz.underlying5 Tryz.underlying9 HO.out
    rw [← hV] at hstr1
    have HRET : Hid (∀ W, Below w.heap.size w W → FirstP s w (.returned (.tuple #[.agg #[.string N, .string V], .string LF, .bool true])) W) := fun W hW => by
     refine ⟨(N, V), LF, true, rfl, hW, fun _ => ⟨by have := htr.2; omega, HNs.out, by show V.size ≤ _; rw [hV, kit.str_size]; omega⟩, fun x0 t hg he => ?_⟩
     obtain ⟨a1, a2⟩ := HTT.out x0 t hg he
     obtain ⟨j, hj, hv, hd⟩ := HI.out _ _ a2
     rw [HDR.out, HB.out] at hd
     obtain ⟨b1, b2⟩ := (lm.esc_at hd.symm).1 rfl
     have hjl : (kit.bytes x0.2).length ≤ j := by
      have := congrArg List.length b1
      rw [List.length_drop, List.length_nil] at this; omega
     refine ⟨rfl, ?_, by rw [htr.1, b2]⟩
     rw [hV, a1, hv, List.take_of_length_le hjl, kit.str_bytes]
    have wa : IntKind.i64.wrap ((k : Int) + 1) = (k : Int) + 1 := IntWalk.i64_in _ (by omega)
    have wb : ((k : Int) + 1).toNat = k + 1 := by omega
    have wc : (k : Int) + 1 ≤ (A.size : Int) := by omega
    have wz : (0 : Int) ≤ (k : Int) + 1 := by omega
    have wn : k + 1 ≤ A.size := hlt
    clear hLF htr hex hV h34
    go_wp2
    go_region_with (go_at_call 101; (with_reducible refine (HTP.out _).mono ?_); rintro e w' ⟨rfl, rfl⟩)
    all_goals
     go_wp2
     refine bodyPost_ret (v := .tuple #[.agg #[.string N, .string V], .string LF, .bool true]) (by simp [results, Tryz.results71, go_sem, g0, g1]) rfl (HRET.out _ ?_)
     exact (hbw.drew.setCell (p := ⟨w.heap.size, 0, none⟩) (Nat.le_refl _) (.string N)).setCell (p := ⟨w.heap.size, 1, none⟩) (Nat.le_refl _) (.string V)
   ·
    have g34 : ¬ ((A[k]'hlt).toNat : Int) = 34 := by omega
    have g34b : (((A[k]'hlt).toNat : Int) == 34) = false := by simpa using g34
    by_cases h92 : (A[k]'hlt).toNat = 92
    ·
     have g92 : (((A[k]'hlt).toNat : Int) == 92) = true := by rw [h92]; rfl
     by_cases hk1 : k + 1 < A.size
     ·
      have hk1I : (k : Int) + 1 < (A.size : Int) := by omega
      have HDR1 := Lib.hid (kit.bytes_drop A (k + 1) hk1)
      have HI2 : Hid (∀ v0 t, kit.bytes A = escN v0 ++ 34 :: t → ∃ j, j ≤ v0.length ∧ val ++ [(A[k + 1]'hk1).toNat] = v0.take j ∧ (kit.bytes A).drop (k + 2) = escN (v0.drop j) ++ 34 :: t) := fun v0 t h => by
       obtain ⟨j, hj, hv, hd⟩ := HI.out v0 t h
       rw [HDR.out, HDR1.out] at hd
       obtain ⟨y, v', r', e1, e2, e3, _⟩ := (lm.esc_at hd.symm).2.2 h92
       simp only [List.cons.injEq] at e1
       obtain ⟨rfl, rfl⟩ := e1
       have hjl : j < v0.length := by
        have := congrArg List.length e2
        rw [List.length_drop, List.length_cons] at this; omega
       rw [List.drop_eq_getElem_cons hjl] at e2
       simp only [List.cons.injEq] at e2
       exact ⟨j + 1, hjl, by rw [List.take_succ_eq_append_getElem hjl, hv, e2.1], by rw [e2.2]; exact e3⟩
      go_wp2_with (at_builtin; refine kit.app1 (.tmp 52) (.tmp 56) 144 rfl rfl w1.heap.size Tryz.underlying144 infoU8 rfl (by decide) (by decide) HO.out rfl rfl rfl (by intro u hu; simp at hu; subst hu; rfl) (by omega) hz ?_)
      intro v2 w2 hown2 hb2
      have HO2 : Hid (w2.ownsRow w1.heap.size 5 1 v2 (val ++ [(A[k + 1]'hk1).toNat]).length (kit.u8s (val ++ [(A[k + 1]'hk1).toNat]))) := by
       show World.ownsRow _ _ _ _ _ _ _
       rw [kit.u8s_app]; simpa [kit.u8s] using hown2
      have hl2 : (val ++ [(A[k + 1]'hk1).toNat]).length ≤ k + 1 := by simp; omega
      have hbl2 := hbl.trans hb2
      clear hown2 hb2
      go_wp2
      go_roundw
      case rel => exact ⟨k + 2, val ++ [(A[k + 1]'hk1).toNat], by go_num, by omega, by omega, HO2.out, hbl2, HI2.out⟩
      case measure => simp [intOf]; omega
     ·
      have hkl : k + 1 = A.size := by omega
      have hk1I : ¬ (k : Int) + 1 < (A.size : Int) := by omega
      have HI2 : Hid (∀ v0 t, kit.bytes A = escN v0 ++ 34 :: t → ∃ j, j ≤ v0.length ∧ val ++ [92] = v0.take j ∧ (kit.bytes A).drop (k + 1) = escN (v0.drop j) ++ 34 :: t) := fun v0 t h => by
       obtain ⟨j, hj, hv, hd⟩ := HI.out v0 t h
       rw [HDR.out] at hd
       obtain ⟨y, v', r', e1, _⟩ := (lm.esc_at hd.symm).2.2 h92
       rw [List.drop_eq_nil_of_le (by rw [kit.bytes_len]; omega)] at e1
       cases e1
      go_wp2_with (at_builtin; refine kit.app1 (.tmp 52) (.tmp 56) 144 rfl rfl w1.heap.size Tryz.underlying144 infoU8 rfl (by decide) (by decide) HO.out rfl rfl rfl (by intro u hu; simp at hu; subst hu; rfl) (by omega) hz ?_)
      intro v2 w2 hown2 hb2
      have HO2 : Hid (w2.ownsRow w1.heap.size 5 1 v2 (val ++ [92]).length (kit.u8s (val ++ [92]))) := by
       show World.ownsRow _ _ _ _ _ _ _
       rw [kit.u8s_app]; simpa [kit.u8s] using hown2
      have hl2 : (val ++ [92]).length ≤ k + 1 := by simp; omega
      have hbl2 := hbl.trans hb2
      clear hown2 hb2
      go_wp2
      go_roundw
      case rel => exact ⟨k + 1, val ++ [92], by go_num, by omega, by omega, HO2.out, hbl2, HI2.out⟩
      case measure => simp [intOf]; omega
    ·
     have g92 : ¬ ((A[k]'hlt).toNat : Int) = 92 := by omega
     have g92b : (((A[k]'hlt).toNat : Int) == 92) = false := by simpa using g92
     have HI2 : Hid (∀ v0 t, kit.bytes A = escN v0 ++ 34 :: t → ∃ j, j ≤ v0.length ∧ val ++ [(A[k]'hlt).toNat] = v0.take j ∧ (kit.bytes A).drop (k + 1) = escN (v0.drop j) ++ 34 :: t) := fun v0 t h => by
      obtain ⟨j, hj, hv, hd⟩ := HI.out v0 t h
      rw [HDR.out] at hd
      obtain ⟨v', e1, e2⟩ := (lm.esc_at hd.symm).2.1 h34 h92
      have hjl : j < v0.length := by
       have := congrArg List.length e1
       rw [List.length_drop, List.length_cons] at this; omega
      rw [List.drop_eq_getElem_cons hjl] at e1
      simp only [List.cons.injEq] at e1
      exact ⟨j + 1, hjl, by rw [List.take_succ_eq_append_getElem hjl, hv, e1.1], by rw [e1.2]; exact e2⟩
     go_wp2_with (at_builtin; refine kit.app1 (.tmp 52) (.tmp 56) 144 rfl rfl w1.heap.size Tryz.underlying144 infoU8 rfl (by decide) (by decide) HO.out rfl rfl rfl (by intro u hu; simp at hu; subst hu; rfl) (by omega) hz ?_)
     intro v2 w2 hown2 hb2
     have HO2 : Hid (w2.ownsRow w1.heap.size 5 1 v2 (val ++ [(A[k]'hlt).toNat]).length (kit.u8s (val ++ [(A[k]'hlt).toNat]))) := by
      show World.ownsRow _ _ _ _ _ _ _
      rw [kit.u8s_app]; simpa [kit.u8s] using hown2
     have hl2 : (val ++ [(A[k]'hlt).toNat]).length ≤ k + 1 := by simp; omega
     have hbl2 := hbl.trans hb2
     clear hown2 hb2
     go_wp2
     go_roundw
     case rel => exact ⟨k + 1, val ++ [(A[k]'hlt).toNat], by go_num, by omega, by omega, HO2.out, hbl2, HI2.out⟩
     case measure => simp [intOf]; omega
  ·
   obtain rfl : k = A.size := by omega
   have HNO : Hid (∀ x0 t, lm.good x0 = true → kit.bytes s = lm.oneT x0 ++ t → False) := fun x0 t hg he => by
    obtain ⟨j, hj, hv, hd⟩ := HI.out _ _ (HTT.out x0 t hg he).2
    rw [List.drop_eq_nil_of_le (by rw [kit.bytes_len]; exact Nat.le_refl _)] at hd
    have := congrArg List.length hd
    simp at this
   have hset := (hbw.setCell (p := ⟨w.heap.size, 0, none⟩) (Nat.le_refl _) (.string ⟨#[]⟩)).setCell (p := ⟨w.heap.size, 1, none⟩) (Nat.le_refl _) (.string ⟨#[]⟩)
   have HR2 := Lib.hid (first_bad HNO.out hset)
   go_wp2
   refine bodyPost_ret (v := .tuple #[.agg #[.string ⟨#[]⟩, .string ⟨#[]⟩], .string ⟨#[]⟩, .bool false]) (by simp [results, Tryz.results71, go_sem, g0, g1]) rfl HR2.out
end Go.Proofs.YthmnaemcpcdinaaGreat
namespace Go.Proofs.YthmnaemcpcdinaaGreat.lm
open Go.RowKit
theorem bytes_mid (s : ByteArray) (p : Nat) : kit.bytes (s.extract 1 p) = ((kit.bytes s).drop 1).take (p - 1) := by
 show List.map UInt8.toNat (s.extract 1 p).data.toList = ((List.map UInt8.toNat s.data.toList).drop 1).take (p - 1)
 rw [ByteArray.data_extract, Array.toList_extract, List.extract_eq_take_drop, List.map_take, List.map_drop]
theorem text_mid {l : List Lab} {s : ByteArray} {p : Nat} (h : textF l = (0, s)) (hp : p + 1 = s.size) : kit.bytes (s.extract 1 p) = (behind l).drop 1 := by
 obtain ⟨hb, _, _⟩ := text_bytes h
 have hl := congrArg List.length hb
 rw [kit.bytes_len, List.length_append, List.length_append] at hl
 simp only [List.length_cons, List.length_nil] at hl
 rw [bytes_mid, hb]
 show ((behind l).drop 1 ++ [125]).take (p - 1) = _
 rw [List.take_append_of_le_length (by omega), List.take_of_length_le (by omega)]
theorem text_ends {l : List Lab} {s : ByteArray} (h : textF l = (0, s)) : 2 ≤ s.size ∧ (∀ h0 : 0 < s.size, (s[0]'h0).toNat = 123) ∧ ∀ p (h1 : p < s.size), p + 1 = s.size → (s[p]'h1).toNat = 125 := by
 obtain ⟨hb, _, _⟩ := text_bytes h
 have hl := congrArg List.length hb
 rw [kit.bytes_len, List.length_append, List.length_append] at hl
 simp only [List.length_cons, List.length_nil] at hl
 refine ⟨by omega, fun h0 => ?_, fun p h1 hp => ?_⟩
 ·
  have := kit.bytes_get s 0 h0
  rw [hb] at this
  simpa using this.symm
 ·
  have := kit.bytes_get s p h1
  rw [hb, List.getElem?_append_right (by rw [List.length_append]; simp only [List.length_cons, List.length_nil]; omega)] at this
  have e : p - ([123] ++ (behind l).drop 1).length = 0 := by rw [List.length_append]; simp only [List.length_cons, List.length_nil]; omega
  rw [e] at this
  simpa using this.symm
theorem behind_cons (x : Lab) (r : List Lab) : behind (x :: r) = 44 :: (oneT x ++ behind r) := rfl
theorem noComma_behind (r : List Lab) : noComma (behind r) = (behind r).drop 1 := by
 cases r with
 | nil => rfl
 | cons x r => rw [behind_cons]; exact if_pos rfl
theorem oneT_ne (x : Lab) : oneT x ≠ [] := by unfold oneT; simp
def At (s : ByteArray) (L : List Lab) (r : ByteArray) : Prop := ∀ l0, textF l0 = (0, s) → ∃ j, j ≤ l0.length ∧ L = l0.take j ∧ kit.bytes r = (behind (l0.drop j)).drop 1
theorem at_start {s : ByteArray} {p : Nat} (hp : p + 1 = s.size) : At s [] (s.extract 1 p) := fun l0 h => ⟨0, Nat.zero_le _, rfl, by rw [text_mid h hp]; rfl⟩
theorem at_more {s r : ByteArray} {L : List Lab} (h : At s L r) (hr : r ≠ .empty) {l0 : List Lab} (h0 : textF l0 = (0, s)) : ∃ x0 t, good x0 = true ∧ kit.bytes r = oneT x0 ++ t ∧ ∃ j, j < l0.length ∧ L = l0.take j ∧ x0 = l0.getD j (.empty, .empty) ∧ t = behind (l0.drop (j + 1)) := by
 obtain ⟨j, hj, hL, hb⟩ := h l0 h0
 have hjl : j < l0.length := by
  rcases Nat.lt_or_ge j l0.length with h | h
  ·
   exact h
  ·
   rw [List.drop_eq_nil_of_le h] at hb
   exact absurd (kit.bytes_inj (t := .empty) (by rw [hb]; rfl)) hr
 rw [List.drop_eq_getElem_cons hjl, behind_cons] at hb
 exact ⟨l0[j], _, (text_bytes h0).2.1 _ (List.getElem_mem _), hb, j, hjl, hL, by simp [List.getD, hjl], rfl⟩
theorem at_next {s r left : ByteArray} {L : List Lab} {x : Lab} (h : At s L r) (hr : r ≠ .empty) (hx : ∀ x0 t, good x0 = true → kit.bytes r = oneT x0 ++ t → x = x0 ∧ kit.bytes left = noComma t) : At s (L ++ [x]) left := fun l0 h0 => by
 obtain ⟨x0, t, hg, hb, j, hj, hL, hx0, ht⟩ := at_more h hr h0
 obtain ⟨e1, e2⟩ := hx x0 t hg hb
 exact ⟨j + 1, hj, by rw [take_snoc hj hx0, hL, e1], by rw [e2, ht, noComma_behind]⟩
theorem at_end {s : ByteArray} {L : List Lab} (h : At s L .empty) {l0 : List Lab} (h0 : textF l0 = (0, s)) : L = l0 := by
 obtain ⟨j, hj, hL, hb⟩ := h l0 h0
 rcases Nat.lt_or_ge j l0.length with hjl | hjl
 ·
  rw [List.drop_eq_getElem_cons hjl, behind_cons] at hb
  have h3 : (oneT l0[j] ++ behind (l0.drop (j + 1))) = [] := by
   have : kit.bytes .empty = [] := rfl
   rw [this] at hb
   exact hb.symm
  exact absurd (List.append_eq_nil_iff.1 h3).1 (oneT_ne _)
 ·
  rw [hL, List.take_of_length_le hjl]
end Go.Proofs.YthmnaemcpcdinaaGreat.lm
namespace Go.Proofs.YthmnaemcpcdinaaGreat
open Go.RowKit Go.ChangeShapes cl
def ParseP (s : ByteArray) (w : World) (e : Ending) (w' : World) : Prop := ∃ r, CanonP r w e w' ∧ lm.Is s r
theorem parse_bad {s : ByteArray} {w W : World} (h6 : ¬ 600 < s.size) (hn : ∀ l, lm.textF l = (0, s) → False) (hb : Below w.heap.size w W) : ParseP s w (.returned (.tuple #[.slice none 0 0, .int .i64 3])) W :=
 ⟨(3, []), ret8 rfl hb, Or.inr ⟨h6, Or.inr ⟨rfl, fun ⟨l, h⟩ => hn l h⟩⟩⟩
set_option maxHeartbeats 3200000 in
set_option maxRecDepth 100000 in
theorem parse_any (s : ByteArray) (w : World) (hs : s.size ≤ maxLen) (hm : MX w) :
  Calls Tryz.prog 45 #[.string s] w (ParseP s w) := by
 unfold maxLen at hs
 by_cases h6 : 600 < s.size
 ·
  have h6I : (600 : Int) < (s.size : Int) := by omega
  have HRET : Hid (ParseP s w (.returned (.tuple #[.slice none 0 0, .int .i64 4])) w) := ⟨(4, []), ret8 rfl (Below.refl _ _), Or.inl ⟨h6, rfl⟩⟩
  go_enter Tryz.func45, Tryz.ntmps45
  go_wp2
  exact bodyPost_ret (v := .tuple #[.slice none 0 0, .int .i64 4]) (by simp [results, Tryz.results45, go_sem]) rfl HRET.out
 have h6I : ¬ (600 : Int) < (s.size : Int) := by omega
 have HRB : Hid (∀ W, (∀ l, lm.textF l = (0, s) → False) → Below w.heap.size w W → ParseP s w (.returned (.tuple #[.slice none 0 0, .int .i64 3])) W) := fun W hn hb => parse_bad h6 hn hb
 have HN6 := Lib.hid h6
 by_cases h2 : s.size < 2
 ·
  have h2I : (s.size : Int) < 2 := by omega
  have HRET := Lib.hid (HRB.out w (fun l h => by have := (lm.text_ends h).1; omega) (Below.refl _ _))
  go_enter Tryz.func45, Tryz.ntmps45
  go_wp2
  exact bodyPost_ret (v := .tuple #[.slice none 0 0, .int .i64 3]) (by simp [results, Tryz.results45, go_sem]) rfl HRET.out
 have h2I : ¬ (s.size : Int) < 2 := by omega
 have h0 : 0 < s.size := by omega
 have h0I : (0 : Int) < (s.size : Int) := by omega
 by_cases hA : (s[0]'h0).toNat = 123
 rotate_left
 ·
  have hAi : ¬ ((s[0]'h0).toNat : Int) = 123 := by omega
  have hAb : (((s[0]'h0).toNat : Int) != 123) = true := by simpa using hAi
  have hAc : (((s[0]'h0).toNat : Int) == 123) = false := by simpa using hAi
  have HRET := Lib.hid (HRB.out w (fun l h => hA ((lm.text_ends h).2.1 h0)) (Below.refl _ _))
  clear hA
  go_enter Tryz.func45, Tryz.ntmps45
  go_wp2
  exact bodyPost_ret (v := .tuple #[.slice none 0 0, .int .i64 3]) (by simp [results, Tryz.results45, go_sem]) rfl HRET.out
 have hAi : ((s[0]'h0).toNat : Int) = 123 := by omega
 have hAb : (((s[0]'h0).toNat : Int) != 123) = false := by rw [hAi]; rfl
 have hAc : (((s[0]'h0).toNat : Int) == 123) = true := by rw [hAi]; rfl
 obtain ⟨p, hp⟩ : ∃ p, p + 1 = s.size := ⟨s.size - 1, by omega⟩
 have HP := Lib.hid hp
 have hpl : p < s.size := by omega
 have hpI : (s.size : Int) - 1 = (p : Int) := by omega
 have hpI2 : (p : Int) < (s.size : Int) := by omega
 have hpI3 : (0 : Int) ≤ (p : Int) := by omega
 have hpI4 : (1 : Int) ≤ (p : Int) := by omega
 have hpI5 : (p : Int) ≤ (s.size : Int) := by omega
 have hpw : IntKind.i64.wrap (p : Int) = (p : Int) := IntWalk.i64_in _ (by omega)
 have hpn : (p : Int).toNat = p := Int.toNat_natCast p
 by_cases hB : (s[p]'hpl).toNat = 125
 rotate_left
 ·
  have hBi : ¬ ((s[p]'hpl).toNat : Int) = 125 := by omega
  have hBb : (((s[p]'hpl).toNat : Int) != 125) = true := by simpa using hBi
  have hBc : (((s[p]'hpl).toNat : Int) == 125) = false := by simpa using hBi
  have HRET := Lib.hid (HRB.out w (fun l h => hB ((lm.text_ends h).2.2 p hpl HP.out)) (Below.refl _ _))
  clear hB hp hA
  go_enter Tryz.func45, Tryz.ntmps45
  go_wp2
  exact bodyPost_ret (v := .tuple #[.slice none 0 0, .int .i64 3]) (by simp [results, Tryz.results45, go_sem]) rfl HRET.out
 have hBi : ((s[p]'hpl).toNat : Int) = 125 := by omega
 have hBb : (((s[p]'hpl).toNat : Int) != 125) = false := by rw [hBi]; rfl
 have hBc : (((s[p]'hpl).toNat : Int) == 125) = true := by rw [hBi]; rfl
 have HFI : Hid (∀ (r : ByteArray) (W : World), r.size ≤ 600 → MX W → Calls Tryz.prog 71 #[.string r] W (FirstP r W)) := fun r W h1 h2 => first_any r W h1 h2
 have HM := Lib.hid hm
 have HS6 : Hid (s.size ≤ 600) := Nat.le_of_not_lt h6
 have hz0 : 0 < w.heap.size := by obtain ⟨m, h⟩ := hm; exact World.block_lt_of_cell? _ _ h
 clear hB hp hm h6 hA
 go_enter Tryz.func45, Tryz.ntmps45
 go_wp2
 go_loopw [4, 5, 6, 7, 8] (fun o u5 _ _ _ wr => ∃ (L : List Lab) (q : Nat) (oa : Option Addr) (oc : Nat) (r : ByteArray), o = .slice oa q oc ∧ u5 = .string r ∧ q + r.size ≤ 600 ∧ Hid (q = L.length) ∧ Hid (wr.ownsRow w.heap.size 91 2 (.slice oa q oc) q (lcells L)) ∧ Hid (∀ x ∈ L, x.1.size ≤ 600 ∧ x.2.size ≤ 600) ∧ Hid (lm.At s L r) ∧ Below w.heap.size w wr) (fun _ u5 _ _ _ _ => match u5 with | .string r => r.size | _ => 0)
 case atStart =>
  exact ⟨[], 0, none, 0, _, rfl, rfl, by rw [ByteArray.size_extract]; have := HS6.out; omega, rfl, ⟨rfl, Or.inl ⟨rfl, rfl⟩⟩, (fun x hx => by cases hx), lm.at_start HP.out, Below.refl _ _⟩
 case round =>
  obtain ⟨L, q, oa, oc, r, rfl, rfl, hqr, HQ, HO, HLS, HAT, hbl⟩ := hrel
  have hz := hbl.size
  by_cases hr : r = .empty
  ·
   subst hr
   have hlab : Labs wr wr.heap.size (.slice oa q oc) L := by
    have := Cells.own HO.out
    show Cells _ _ _ _ _ _
    rw [← HQ.out]; exact this
   have HTX := Lib.hid (text_any L _ wr hlab (fun x hx => by have := HLS.out x hx; unfold maxLen; omega) (by rw [← HQ.out]; omega))
   obtain ⟨⟨f, T⟩, hfT⟩ : ∃ r, r = lm.textF L := ⟨_, rfl⟩
   rw [← hfT] at HTX
   have HFT := Lib.hid hfT
   have HEND : Hid (∀ l0, lm.textF l0 = (0, s) → L = l0) := fun l0 h0 => lm.at_end HAT.out h0
   clear hlab hfT
   by_cases hf : f = 0
   rotate_left
   ·
    have hfb : (f != 0) = true := by simpa using hf
    have hfc : (f == 0) = false := by simpa using hf
    have HNO : Hid (∀ l, lm.textF l = (0, s) → False) := fun l0 h0 => by
     have e := HEND.out l0 h0
     have e2 := HFT.out
     rw [e, h0] at e2
     exact hf (Prod.mk.inj e2).1
    clear hf
    go_wp2_with fail
    (with_reducible refine HTX.out.mono ?_)
    rintro e w3 ⟨rfl, hb3⟩
    have HRET := Lib.hid (HRB.out w3 HNO.out (hbl.trans (hb3.mono hz)))
    go_wp2
    exact bodyPost_ret (v := .tuple #[.slice none 0 0, .int .i64 3]) (by simp [results, Tryz.results45, go_sem]) rfl HRET.out
   subst hf
   by_cases hT : T = s
   rotate_left
   ·
    have hTn := str_ne hT
    have hTb : (T.toList == s.toList) = false := by simpa using hTn
    have hTc : (T.toList != s.toList) = true := by simpa using hTn
    have HNO : Hid (∀ l, lm.textF l = (0, s) → False) := fun l0 h0 => by
     have e := HEND.out l0 h0
     have e2 := HFT.out
     rw [e, h0] at e2
     exact hT (Prod.mk.inj e2).2
    clear hT
    go_wp2_with fail
    (with_reducible refine HTX.out.mono ?_)
    rintro e w3 ⟨rfl, hb3⟩
    have HRET := Lib.hid (HRB.out w3 HNO.out (hbl.trans (hb3.mono hz)))
    go_wp2
    exact bodyPost_ret (v := .tuple #[.slice none 0 0, .int .i64 3]) (by simp [results, Tryz.results45, go_sem]) rfl HRET.out
   subst hT
   go_wp2_with fail
   (with_reducible refine HTX.out.mono ?_)
   rintro e w3 ⟨rfl, hb3⟩
   have HRET : Hid (ParseP T w (.returned (.tuple #[.slice oa q oc, .int .i64 0])) w3) := by
    refine ⟨(0, L), ⟨_, rfl, ?_, hbl.trans (hb3.mono hz)⟩, Or.inr ⟨HN6.out, Or.inl ⟨L, rfl, HFT.out.symm⟩⟩⟩
    show Cells _ _ _ _ _ _
    rw [← HQ.out]; exact Cells.own (own_stay HO.out hb3)
   go_wp2
   exact bodyPost_ret (v := .tuple #[.slice oa q oc, .int .i64 0]) (by simp [results, Tryz.results45, go_sem]) rfl HRET.out
  ·
   obtain ⟨hs1, hs2, hs3⟩ : r.toList.isEmpty = false ∧ ¬ r.toList = [] ∧ ¬ r = ByteArray.empty := kit.ne_empty (Nat.pos_of_ne_zero fun e => hr (ByteArray.ext (Array.eq_empty_of_size_eq_zero e)))
   have HF := Lib.hid (HFI.out r wr (by omega) (MX.next HM.out hbl))
   have HRN := Lib.hid hr
   clear hr
   go_wp2_with fail
   (with_reducible refine HF.out.mono ?_)
   rintro e w2 ⟨⟨xa, xb⟩, left, ok, rfl, hb2, hsz, htell⟩
   have HTL := Lib.hid htell
   have hbl2 := hbl.trans (hb2.mono hz)
   have hz2 := hbl2.size
   have HO2 := Lib.hid ((own_stay HO.out hb2).alloc (.cells #[.string xa, .string xb] 91))
   have hbl3 := hbl2.alloc hz2 (.cells #[.string xa, .string xb] 91)
   clear htell hb2
   cases ok with
   | false =>
    have HNO : Hid (∀ l, lm.textF l = (0, s) → False) := fun l0 h0 => by
     obtain ⟨x0, t, hg, hb, _⟩ := lm.at_more HAT.out HRN.out h0
     have := (HTL.out x0 t hg hb).1
     cases this
    have HRET := Lib.hid (HRB.out _ HNO.out hbl3)
    clear hsz
    go_wp2
    exact bodyPost_ret (v := .tuple #[.slice none 0 0, .int .i64 3]) (by simp [results, Tryz.results45, go_sem]) rfl HRET.out
   | true =>
    obtain ⟨hl1, hl2, hl3⟩ := hsz rfl
    simp only at hl2 hl3
    have HAT2 : Hid (lm.At s (L ++ [(xa, xb)]) left) := lm.at_next HAT.out HRN.out (fun x0 t hg hb => ⟨(HTL.out x0 t hg hb).2.1, (HTL.out x0 t hg hb).2.2⟩)
    have HLS2 : Hid (∀ x ∈ L ++ [(xa, xb)], x.1.size ≤ 600 ∧ x.2.size ≤ 600) := fun x hx => by
     rcases List.mem_append.1 hx with h | h
     ·
      exact HLS.out x h
     ·
      simp only [List.mem_cons, List.not_mem_nil, or_false] at h
      rw [h]; exact ⟨show xa.size ≤ 600 by omega, show xb.size ≤ 600 by omega⟩
    have HQ2 : Hid (q + 1 = (L ++ [(xa, xb)]).length) := by show _ = _; rw [List.length_append, ← HQ.out]; rfl
    have HL2 : Hid (lcells (L ++ [(xa, xb)]) = lcells L ++ [.string xa, .string xb]) := by show _ = _; rw [lcells_app]; rfl
    have HOG := Lib.hid (own_stay HO.out (Below.refl _ _))
    clear hsz
    go_wp2_with (at_builtin; refine kit.appB (.tmp 45) (.tmp 47) 63 rfl rfl w.heap.size Tryz.underlying63 infoLab rfl (by decide) (by decide) 1 (World.size_alloc _ _) HO2.out rfl rfl rfl lcells_two (by omega) hbl3.size ?_)
    intro v4 w4 hown4 hgrow4
    have hbl4 := hbl3.trans (((Below.refl _ _).alloc hbl3.size _).trans (grown_below (HO2.out.alloc _) (by rw [World.size_alloc]; have := hbl3.size; omega) hgrow4))
    have HO4 := Lib.hid hown4
    clear hown4 hgrow4
    rcases own_form HO4.out with ⟨_, h0⟩ | ⟨g4, cap4, rfl, hg4⟩
    ·
     omega
    go_wp2
    go_roundw
    case rel => exact ⟨L ++ [(xa, xb)], q + 1, some ⟨g4, 0, none⟩, cap4, left, rfl, rfl, by omega, HQ2.out, by show World.ownsRow _ _ _ _ _ _ _; rw [HL2.out]; exact HO4.out, HLS2.out, HAT2.out, hbl4⟩
    case measure => omega
end Go.Proofs.YthmnaemcpcdinaaGreat
namespace Go.Proofs.YthmnaemcpcdinaaGreat
open Go Go.RowKit Go.ChangeShapes cl Go.Sort
def sA : ByteArray := ⟨#[123, 97, 61, 34, 49, 34, 125]⟩
set_option maxRecDepth 100000 in
theorem sA_text : lm.textF [(⟨#[97]⟩, ⟨#[49]⟩)] = (0, sA) := by kernel_rfl
theorem parse_sA (w : World) (hm : MX w) : Calls Tryz.prog 45 #[.string sA] w fun e w' => ∃ lv, e = .returned (.tuple #[lv, .int .i64 0]) ∧ Below w.heap.size w w' := by
 refine (parse_any sA w (by unfold maxLen; decide) hm).mono ?_
 rintro e w' ⟨r, ⟨v, rfl, _, hb⟩, hi⟩
 rcases hi with ⟨h, _⟩ | ⟨_, h⟩
 ·
  exact absurd h (by decide)
 ·
  rcases h with h | ⟨_, h⟩
  ·
   obtain ⟨l, rfl, _⟩ := h
   exact ⟨v, rfl, hb⟩
  ·
   exact absurd ⟨_, sA_text⟩ h
set_option maxHeartbeats 800000 in
set_option maxRecDepth 100000 in
theorem expect_one (x : Lv) (v : Value) (w : World) (h : Cells w w.heap.size v 1 4 (lcell x))
  (hp : ∀ W, Below w.heap.size w W → Calls Tryz.prog 45 #[.string x.s] W fun e w' => ∃ lv, e = .returned (.tuple #[lv, .int .i64 0]) ∧ Below W.heap.size W w') :
  Calls Tryz.prog 13 #[v, .slice none 0 0] w (ChsP x.s w) := by
 have HS := Lib.hid (series_one x v w h)
 have HP := Lib.hid hp
 clear h hp
 go_enter Tryz.func13, Tryz.ntmps13
 go_wp2_with fail
 (with_reducible refine HS.out.mono ?_)
 rintro e w1 ⟨g, cap, rfl, ho, hb⟩
 have k0 : w1.cell? ⟨g, 0, none⟩ = some (.string x.s) := by
  have := ho.cells (g := g) rfl 0 (.string x.s) rfl
  rw [Addr.add_lit] at this
  simpa using this
 have HC := Lib.hid (choose_one x.s g cap w1 k0 (fun W hW => HP.out W (hb.trans (hW.mono hb.size))))
 have HB := Lib.hid hb
 clear ho hb k0
 go_wp2_with fail
 (with_reducible refine HC.out.mono ?_)
 rintro e w2 ⟨g2, cap2, rfl, ho2, hb2⟩
 have HR : Hid (ChsP x.s w (.returned (.slice (some ⟨g2, 0, none⟩) 1 cap2)) w2) := ⟨g2, cap2, rfl, own_base ho2 HB.out.size, HB.out.trans (hb2.mono HB.out.size)⟩
 clear ho2 hb2
 go_wp2
 go_ret
 exact HR.out
end Go.Proofs.YthmnaemcpcdinaaGreat
namespace Go.Proofs.YthmnaemcpcdinaaGreat
open Go Go.RowKit Go.ChangeShapes cl Go.Sort
def okE (er : Int) : Prop := er = 1 ∨ er = 4 ∨ er = 8 ∨ er = 9 ∨ er = 11 ∨ er = 10 ∨ er = 12
instance (er : Int) : Decidable (okE er) := by unfold okE; exact inferInstance
set_option maxHeartbeats 1600000 in
set_option maxRecDepth 100000 in
theorem fits_err (v : Value) (s : ByteArray) (d : Dot) (t er : Int) (ma la : Option Addr) (mn mc ln lc : Nat) (st : Bool) (w : World) (h0 : er ≠ 0) (hl : ln ≤ 9223372036854775807) :
  Calls Tryz.prog 11 #[v, .agg #[.int .i64 3, .string s, .int .i64 d.1, .int .i64 d.2, .int .i64 t, .slice ma mn mc, .slice la ln lc, .int .i64 er, .bool st]] w (Said (decide (okE er) && decide (ln = 0)) w) := by
 have hb : Below w.heap.size w (w.alloc (.cells #[.int .i64 3, .string s, .int .i64 d.1, .int .i64 d.2, .int .i64 t, .slice ma mn mc, .slice la ln lc, .int .i64 er, .bool st] 29)) := below1
 by_cases h : okE er
 ·
  rw [decide_eq_true h, Bool.true_and]
  by_cases hn : ln = 0
  ·
   subst hn
   have HR : Hid (∀ W, Below w.heap.size w W → Said (decide ((0 : Nat) = 0)) w (.returned (.bool true)) W) := fun W hW => ⟨rfl, hW⟩
   unfold okE at h
   rcases h with rfl | rfl | rfl | rfl | rfl | rfl | rfl
   all_goals
    go_enter Tryz.func11, Tryz.ntmps11
    go_wp2
    go_ret
    exact HR.out _ hb
  ·
   have hnI : ((ln : Int) == 0) = false := by simpa using hn
   have hnJ : ¬ (ln : Int) = 0 := by omega
   have HR : Hid (∀ W, Below w.heap.size w W → Said (decide (ln = 0)) w (.returned (.bool false)) W) := fun W hW => ⟨by rw [decide_eq_false hn], hW⟩
   unfold okE at h
   rcases h with rfl | rfl | rfl | rfl | rfl | rfl | rfl
   all_goals
    go_enter Tryz.func11, Tryz.ntmps11
    go_wp2
    go_ret
    try rw [hnI]
    exact HR.out _ hb
 ·
  have HR : Hid (∀ W, Below w.heap.size w W → Said (decide (okE er) && decide (ln = 0)) w (.returned (.bool false)) W) := fun W hW => ⟨by rw [decide_eq_false h, Bool.false_and], hW⟩
  have e0 : (er == 0) = false := by simpa using h0
  unfold okE at h
  have e1 : (er == 1) = false := by simp; omega
  have e2 : (er == 4) = false := by simp; omega
  have e3 : (er == 8) = false := by simp; omega
  have e4 : (er == 9) = false := by simp; omega
  have e5 : (er == 11) = false := by simp; omega
  have e6 : (er == 10) = false := by simp; omega
  have e7 : (er == 12) = false := by simp; omega
  go_enter Tryz.func11, Tryz.ntmps11
  go_wp2
  go_ret
  exact HR.out _ hb
end Go.Proofs.YthmnaemcpcdinaaGreat
