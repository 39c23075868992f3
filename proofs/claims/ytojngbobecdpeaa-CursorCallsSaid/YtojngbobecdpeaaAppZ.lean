/- append behind an empty slice without room, of the call's own: nothing that lay there is touched. Nothing of the program. -/
import Derived.Test.YtojngbobecdpeaaKit
import Derived.Test.YtojngbobecdpeaaFlow
namespace Go.Proofs.Ytojngbobecdpeaa.kit
open Go.RowKit

/-- a law on a row of operations, for one operation -/
theorem wp_of_list {P : Program} {Q : Exit → Act → World → Prop} {o : Oper} {a : Act} {w : World} {K : Act → World → Prop} (h : ∀ Q' : Exit → Act → World → Prop, (∀ a w, K a w → wpList P #[] Q' [] a w) → wpList P #[] Q' [{ o with guard := none }] a w) : o.wp P a w K Q := by
  have := step_of_list (P := P) (ops := #[]) (Q := Q) (o := { o with guard := none }) (a := a) (w := w) (K := K) (E := True) (by simp [Region.wanted]) h
  rw [if_pos (by simp [Region.wanted])] at this
  exact this
theorem appZ {P : Program} {w : World} {ops : Array Oper} {rest : List Oper} {o : Oper} {a : Act} {Q : Exit → Act → World → Prop}
    (s x : Operand) (t : TypeId) (hgd : o.guard = none)
    (ho : o.op = .call { callee := .builtin .append, args := #[s, x], argTypes := #[t, t] })
    (base : Nat) {e : TypeId} {z : Value} {size bytes : Nat} (ht : P.underlying t = some (.slice e)) (hi : (P.info? e).map (fun i => (i.zero, i.size, i.bytes)) = some (some z, size, bytes))
    (hzs : z.cells.size = size) (hsz : 0 < size) (hb1 : 0 < bytes)
    {g : Nat} (hown : w.ownsRow base e size (.slice (some ⟨g, 0, none⟩) 0 0) 0 []) (hs : a.eval s = .slice (some ⟨g, 0, none⟩) 0 0)
    {ao : Option Addr} {m c : Nat} (news : List Value) (hx : a.eval x = .slice ao m c) (hl : news.length = m * size) (hnone : ao = none → m = 0 ∧ c = 0)
    (hnews : ∀ ad, ao = some ad → ∀ j u, news[j]? = some u → w.cell? (ad.add j) = some u) (h1 : ∀ u ∈ news, u.oneCell' = true)
    (hbytes : m * bytes ≤ 140737488355328) (hbase : base ≤ w.heap.size)
    (h : ∀ v' w', w'.ownsRow base e size v' m news → Below w.heap.size w w' → wpList P ops Q rest (a.put o.dst v') w') :
    wpList P ops Q (o :: rest) a w := by
  obtain ⟨i, hi', hz, hsize, hby⟩ := info_parts hi
  subst hsize
  subst hby
  have hle : m ≤ m * i.bytes := Nat.le_mul_of_pos_right _ hb1
  cases ao with
  | none =>
    obtain ⟨rfl, rfl⟩ := hnone rfl
    obtain rfl : news = [] := List.eq_nil_of_length_eq_zero (by simpa using hl)
    exact wpList_append_own_none hgd s x t ho base e i i.size ht hi' _ 0 [] hs hown hx (h _ w hown (Below.refl _ _))
  | some ad =>
    rcases hown.2 with ⟨e0, _⟩ | ⟨g', cap, cur, e0, hbg, hg, hnc, hcm, hcs, htake⟩
    · cases e0
    · simp only [Value.slice.injEq, Option.some.injEq, Addr.mk.injEq, and_true, true_and] at e0
      obtain ⟨rfl, rfl⟩ := e0
      have hc0 : cur.size = 0 := by rw [hcs]; simp
      obtain rfl : cur = #[] := Array.eq_empty_of_size_eq_zero hc0
      refine wpList_plain hgd fun K hK => ?_
      by_cases hm : m = 0
      · subst hm
        obtain rfl : news = [] := List.eq_nil_of_length_eq_zero (by simpa using hl)
        have hr := run_append_room (P := P) w t o.type e i ht hi' g 0 0 #[] hg ad 0 c [] (by simp) (fun j u hj => by simp at hj) (fun u hu => by cases hu) (by omega) (by simp)
        have hh := setRow_heap w g #[] (#[] : Array Value) e (0, 0) hg
        unfold Oper.wp
        simp [execOp, ho, resolve, invoke, builtin, hs, hx, hr, Result.andThen]
        refine hK _ _ (h _ _ ?_ ⟨rfl, rfl, rfl, by simp [World.setRow], fun k _ => ?_⟩)
        · exact ⟨by simp, Or.inr ⟨g, 0, #[], rfl, hbg, hh, Nat.le_refl _, hcm, by simp, by simp⟩⟩
        · by_cases hk : k = g
          · subst hk; rw [hg]; exact hh
          · exact setRow_other w g k _ hk
      · have hr := run_append_grow (P := P) w t o.type e i z ht hi' hz ⟨g, 0, none⟩ 0 0 [] (by simp) (fun j u hj => by simp at hj) ad m c news hl (hnews ad rfl) (by omega) (by omega) (growslice_fits (by omega) (by simpa using hbytes))
        have hge := grownCap_ge w (0 + m) 0 e
        have hcm2 : grownCap w (0 + m) 0 e ≤ maxLen := grownCap_le_maxLen w (0 + m) 0 e (by unfold maxLen; omega)
        unfold Oper.wp
        simp [execOp, ho, resolve, invoke, builtin, hs, hx, hr, Result.andThen]
        refine hK _ _ (h _ _ ⟨hl, Or.inr ⟨w.heap.size, _, _, rfl, hbase, heap_alloc_new w.drew _, by simpa using hge, by simpa using hcm2, ?_, ?_⟩⟩ (((Below.refl _ w).drew).alloc (Nat.le_refl _) _))
        · simp only [Array.size_append, List.size_toArray, size_zeroCells, hzs, hl, ← Nat.add_mul, Nat.zero_add] at hge ⊢
          congr 1
          omega
        · simp only [Array.toList_append]
          rw [← hl]
          exact List.take_left
end Go.Proofs.Ytojngbobecdpeaa.kit
