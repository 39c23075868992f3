/- copy within a slice of the call's own (elements of k cells), as a step of a region that draws. Nothing of the program. -/
import Derived.Test.YtpfjmomdnegcpaaCopy
import Derived.Deep.RegionLaw
import Derived.Maps.AppendAt
namespace Go.Proofs.Ytpfjmomdnegcpaa.kit
open Go.RowKit

/-- append of one element behind a slice of the call's own; which block may have been written, and where the new slice lies -/
theorem app1h {P : Program} {w : World} {ops : Array Oper} {rest : List Oper} {o : Oper} {a : Act} {Q : Exit → Act → World → Prop} {cs : Array Value} {e' : TypeId}
    (s x : Operand) (t : TypeId) (hgd : o.guard = none)
    (ho : o.op = .call { callee := .builtin .append, args := #[s, x], argTypes := #[t, t] })
    (base : Nat) {e : TypeId} {z : Value} {size bytes : Nat} (ht : P.underlying t = some (.slice e)) (hi : (P.info? e).map (fun i => (i.zero, i.size, i.bytes)) = some (some z, size, bytes))
    (hzs : z.cells.size = size) (hsz : 0 < size) (hb1 : 0 < bytes)
    {v : Value} {n : Nat} {xs : List Value} {c : Nat} (hown : w.ownsRow base e size v n xs) (hs : a.eval s = v) (hx : a.eval x = .slice (some ⟨w.heap.size, 0, none⟩) 1 c)
    (hcs : cs.size = size) (h1 : ∀ u ∈ cs.toList, u.oneCell' = true) (hbytes : (n + 1) * bytes ≤ 140737488355328) (hbase : base ≤ w.heap.size)
    (h : ∀ v' w', w'.ownsRow base e size v' (n + 1) (xs ++ cs.toList) → (w.alloc (.cells cs e')).grownBy w' v.ownBlock → (v'.ownBlock = v.ownBlock ∨ v'.ownBlock = some (w.heap.size + 1)) → wpList P ops Q rest (a.put o.dst v') w') :
    wpList P ops Q (o :: rest) a (w.alloc (.cells cs e')) := by
  obtain ⟨i, hi, hz, hsize, hby⟩ := info_parts hi
  have hle : n + 1 ≤ (n + 1) * bytes := Nat.le_mul_of_pos_right _ hb1
  refine _root_.Go.wpList_append_own_at _ hgd s x t ho base e i z size bytes ht hi hz hsize hby hzs hsz v n xs hs (hown.alloc _) ⟨w.heap.size, 0, none⟩ 1 c cs.toList hx (by simp [hcs]) ?_ h1
    (by unfold maxLen; omega) hbytes (by simp; omega) fun v' w' r1 r2 _ r4 => h v' w' r1 r2 (by rw [World.size_alloc] at r4; exact r4)
  intro j u hj
  rw [Array.getElem?_toList] at hj
  rw [Addr.add_lit, Nat.zero_add, World.cell?_alloc_at _ _ _ _ rfl]
  exact hj
theorem step_copy_own_k {P : Program} {ops : Array Oper} {o : Oper} {a : Act} {w : World} {K : Act → World → Prop} {Q : Exit → Act → World → Prop} {E : Prop} (hgd : o.guard = none) (d s : Operand) (dT sT : TypeId)
    (ho : o.op = .call { callee := .builtin .copy, args := #[d, s], argTypes := #[dT, sT] }) (base : Nat) {e : TypeId} {k : Nat} (hu : P.underlying dT = some (.slice e)) (hsz : (P.info? e).map (·.size) = some k)
    {dp sp : Option Addr} {dLen dCap sLen sCap : Nat} (hd : a.eval d = .slice dp dLen dCap) (hs : a.eval s = .slice sp sLen sCap)
    {g cap n : Nat} {xs : List Value} (hown : w.ownsRow base e k (.slice (some ⟨g, 0, none⟩) n cap) n xs) (M o1 s1 : Nat) (hM : Nat.min sLen dLen = M) (hpos : 0 < M → dp = some ⟨g, o1, none⟩ ∧ sp = some ⟨g, s1, none⟩)
    (hfit : o1 + M * k ≤ n * k) (hsf : s1 + M * k ≤ n * k) (h1 : ∀ v ∈ xs, v.oneCell' = true)
    (h : ∀ w', Hid (w'.ownsRow base e k (.slice (some ⟨g, 0, none⟩) n cap) n (xs.take o1 ++ (xs.drop s1).take (M * k) ++ xs.drop (o1 + M * k))) → Hid (Below base w w') → Hid (∀ p : Addr, p.block ≠ g → w'.cell? p = w.cell? p) → K (a.put o.dst (goInt M)) w') :
    if Region.wanted o (yielded ops a.tmps) = true then Oper.wp P o a w K Q else E := by
  have hw : Region.wanted o (yielded ops a.tmps) = true := by simp [Region.wanted, hgd]
  rw [if_pos hw]
  have hl := hown.1
  by_cases h0 : M = 0
  · subst h0
    have hrun : (Builtin.copy_ #[dT, sT] o.type #[.slice dp dLen dCap, .slice sp sLen sCap]).run P w = .ok (goInt 0) w := by
      cases hq : P.info? e with
      | none => simp [hq] at hsz
      | some i =>
        cases dp with
        | none => cases sp <;> simp [Builtin.copy_, run_underlying hu, Builtin.lenOf, Builtin.firstCells, sizeOf, typeInfo, hq, hM, loadCells, loadCellsFrom]
        | some ad => cases sp <;> simp [Builtin.copy_, run_underlying hu, Builtin.lenOf, Builtin.firstCells, sizeOf, typeInfo, hq, hM, loadCells, loadCellsFrom, storeCells]
    unfold Oper.wp
    simp [execOp, ho, resolve, invoke, builtin, hd, hs, hrun, Result.andThen]
    refine h w ?_ (Below.refl _ _) (fun _ _ => rfl)
    show World.ownsRow _ _ _ _ _ _ _
    simpa using hown
  · obtain ⟨rfl, rfl⟩ := hpos (by omega)
    rcases hown.2 with ⟨hv, _⟩ | ⟨g', cap', cur, hv, hbg, hg, hnc, hcm, hcs, htake⟩
    · cases hv
    simp only [Value.slice.injEq, Option.some.injEq, Addr.mk.injEq] at hv
    obtain ⟨⟨rfl, _, _⟩, _, rfl⟩ := hv
    have hmul2 : n * k ≤ cap * k := Nat.mul_le_mul_right _ hnc
    have hcl : cur.toList.length = cap * k := by rw [Array.length_toList]; exact hcs
    obtain ⟨cs, hcsd⟩ : ∃ cs, cs = (xs.drop s1).take (M * k) := ⟨_, rfl⟩
    rw [← hcsd] at h
    have hlen : cs.length = M * k := by rw [hcsd, List.length_take, List.length_drop]; omega
    have hsrc : ∀ j v, cs[j]? = some v → w.cell? ((⟨g, s1, none⟩ : Addr).add j) = some v := fun j v hj => by
      rw [hcsd, List.getElem?_take] at hj
      split at hj
      · rw [List.getElem?_drop] at hj
        have := hown.cells (g := g) rfl _ _ hj
        rw [Addr.add_lit] at this ⊢
        rw [Nat.zero_add] at this
        exact this
      · cases hj
    have h1c : ∀ v ∈ cs, v.oneCell' = true := fun v hv => h1 v (by rw [hcsd] at hv; exact List.mem_of_mem_drop (List.mem_of_mem_take hv))
    have hrun := run_copy_k (P := P) w dT sT o.type e g o1 dLen dCap ⟨g, s1, none⟩ sLen sCap k cur e cs hu hsz hg (by rw [hM]; exact hlen) hsrc (by rw [hlen]; omega) h1c
    rw [hM] at hrun
    unfold Oper.wp
    simp [execOp, ho, resolve, invoke, builtin, hd, hs, hrun, Result.andThen]
    refine h _ ?_ ?_ ?_
    · show World.ownsRow _ _ _ _ _ _ _
      refine ⟨by simp [hlen]; omega, Or.inr ⟨g, cap, _, rfl, hbg, setRow_heap w g cur _ e (0, 0) hg, hnc, hcm, ?_, ?_⟩⟩
      · simp; omega
      · have e0 : (cur.toList.take o1 ++ (cs ++ cur.toList.drop (o1 + cs.length))).toArray.toList = cur.toList.take o1 ++ cs ++ cur.toList.drop (o1 + cs.length) := by rw [List.append_assoc]
        have hx1 : xs.take o1 = cur.toList.take o1 := by rw [← htake, List.take_take, Nat.min_eq_left (by omega)]
        have hx2 : xs.drop (o1 + M * k) = (cur.toList.drop (o1 + M * k)).take (n * k - (o1 + M * k)) := by rw [← htake, List.drop_take]
        have hl1 : (cur.toList.take o1 ++ cs).length = o1 + M * k := by rw [List.length_append, List.length_take, hlen, hcl, Nat.min_eq_left (by omega)]
        refine Eq.trans (congrArg (List.take (n * k)) e0) ?_
        rw [hx1, hx2, hlen, List.take_append, hl1, List.take_of_length_le (by omega)]
    · show Below _ _ _
      exact (Below.refl base w).trans ⟨rfl, rfl, rfl, by simp [World.setRow], fun i hi => setRow_other w g i _ (by omega)⟩
    · exact fun p hp => World.cell?_of_block (setRow_other w g p.block _ hp)
end Go.Proofs.Ytpfjmomdnegcpaa.kit
