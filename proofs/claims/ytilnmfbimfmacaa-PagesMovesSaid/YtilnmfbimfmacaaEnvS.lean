/- What is known of the slices of texts at hand, carried from call to call. -/
import Derived.Test.YtilnmfbimfmacaaRefPages
import Derived.Test.YtilnmfbimfmacaaRefToken
import Derived.Test.YtilnmfbimfmacaaRead
import Derived.Test.YtilnmfbimfmacaaTexts
namespace Go.Proofs.Ytilnmfbimfmacaa
open Go.RowKit Go.ChangeShapes Go.Joins cl pg

def Env (w W : World) (L : List (Value × List ByteArray)) : Prop := Below w.heap.size w W ∧ ∀ p ∈ L, Strs W W.heap.size p.1 p.2
theorem Env.step {w W W' : World} {L : List (Value × List ByteArray)} (E : Env w W L) (hb : Below W.heap.size W W') : Env w W' L :=
  ⟨E.1.trans (hb.mono E.1.size), fun p hp => (E.2 p hp).next hb⟩
theorem Env.push {w W W' : World} {L : List (Value × List ByteArray)} (E : Env w W L) {v : Value} {l : List ByteArray} {t : TypeId} {B : Nat} (ho : W'.ownsRow B t 1 v l.length (cl.strs l)) (hb : Below W.heap.size W W') : Env w W' ((v, l) :: L) := by
  refine ⟨E.1.trans (hb.mono E.1.size), fun p hp => ?_⟩
  rcases List.mem_cons.1 hp with rfl | hp
  · exact Cells.own ho
  · exact (E.2 p hp).next hb
theorem Env.alloc {w W : World} {L : List (Value × List ByteArray)} (E : Env w W L) (o : Obj) : Env w (W.alloc o) L := E.step ((Below.refl _ _).alloc (Nat.le_refl _) _)
theorem Env.lit {w W : World} {L : List (Value × List ByteArray)} (E : Env w W L) (l : List ByteArray) (arr : Array Value) (t : TypeId) (N : Nat) (hN : W.heap.size = N) (harr : arr.toList = cl.strs l) (hl : l.length ≤ maxLen) :
    Env w (W.alloc (.cells arr t)) ((.slice (some ⟨N, 0, none⟩) l.length l.length, l) :: L) := by
  subst hN
  have hb : Below W.heap.size W (W.alloc (.cells arr t)) := (Below.refl _ _).alloc (Nat.le_refl _) _
  refine ⟨E.1.trans (hb.mono E.1.size), fun p hp => ?_⟩
  rcases List.mem_cons.1 hp with rfl | hp
  · exact cells_lit W _ _ _ _ t harr (by rw [strs_len, Nat.mul_one]) hl
  · exact (E.2 p hp).next hb
theorem Env.form {w W : World} {L : List (Value × List ByteArray)} (E : Env w W L) {v : Value} {l : List ByteArray} {n : Nat} (h : (v, l) ∈ L) (hn : n = l.length) : ∃ ao c, v = .slice ao n c := by
  obtain ⟨ao, c, e, _⟩ := (E.2 _ h).form' hn
  exact ⟨ao, c, e⟩
def Cut1 (w W : World) (L : List (Value × List ByteArray)) (p : Pg) (e : Ending) (W' : World) : Prop := ∃ v, e = .returned (.agg #[v, .string p.after, .bool p.more]) ∧ Env w W' ((v, p.list) :: L) ∧ Below W.heap.size W W'
theorem ccut {w W : World} {L : List (Value × List ByteArray)} (E : Env w W L) {v : Value} {l : List ByteArray} (h : (v, l) ∈ L) (hr : Ris l) (hl : l.length ≤ 200) (a : ByteArray) (most : Int) {p : Pg} (hp : cut l a most = p) :
    Calls Try.prog 10 #[v, .string a, .int .i64 most] W (Cut1 w W L p) :=
  (cut_any l v a most W (E.2 _ h) hr hl).mono fun _ _ ⟨v', he, ho, hb⟩ => ⟨v', by rw [← hp]; exact he, by rw [← hp]; exact E.push ho hb, hb⟩
theorem crcut {w W : World} {L : List (Value × List ByteArray)} (E : Env w W L) {v : Value} {l : List ByteArray} (h : (v, l) ∈ L) (hr : Ris l) (hl : l.length ≤ 200) (a : ByteArray) (most : Int) {p : Pg} (hp : cut l a most = p) :
    Calls Try.prog 11 #[v, .string a, .int .i64 most] W (Cut1 w W L p) :=
  (rcut_any l v a most W (E.2 _ h) hr hl).mono fun _ _ ⟨v', he, ho, hb⟩ => ⟨v', by rw [← hp]; exact he, by rw [← hp]; exact E.push ho hb, hb⟩
theorem ctexts {w W : World} {L : List (Value × List ByteArray)} (E : Env w W L) {va vb : Value} {a b : List ByteArray} (h1 : (va, a) ∈ L) (h2 : (vb, b) ∈ L) (h : a = b) :
    Calls Try.prog 14 #[va, vb] W (fun e W' => e = .returned (.bool true) ∧ Env w W' L ∧ Below W.heap.size W W') :=
  (texts_any a b va vb W (E.2 _ h1) (E.2 _ h2)).mono fun _ _ ⟨he, hb⟩ => ⟨he.trans (by rw [decide_eq_true h]), E.step hb, hb⟩
def Skip1 (w W : World) (L : List (Value × List ByteArray)) (l : List ByteArray) (e : Ending) (W' : World) : Prop := ∃ v, e = .returned v ∧ Env w W' ((v, l) :: L) ∧ Below W.heap.size W W'
theorem cskip {w W : World} {L : List (Value × List ByteArray)} (E : Env w W L) {v : Value} {l : List ByteArray} (h : (v, l) ∈ L) (hr : Ris l) (hl : l.length ≤ 200) (a : ByteArray) :
    Calls Try.prog 15 #[v, .string a] W (Skip1 w W L (l.drop (beh l a))) :=
  (skip_any l v a W (E.2 _ h) hr hl).mono fun _ _ ⟨v', he, ho, hb⟩ => ⟨v', he, E.push ho hb, hb⟩
theorem crskip {w W : World} {L : List (Value × List ByteArray)} (E : Env w W L) {v : Value} {l : List ByteArray} (h : (v, l) ∈ L) (hr : Ris l) (hl : l.length ≤ 200) (a : ByteArray) :
    Calls Try.prog 16 #[v, .string a] W (Skip1 w W L (l.drop (beh l a))) :=
  (rskip_any l v a W (E.2 _ h) hr hl).mono fun _ _ ⟨v', he, ho, hb⟩ => ⟨v', he, E.push ho hb, hb⟩
/-- a new block's cells, later -/
theorem later {W W' : World} {cs : Array Value} {t : TypeId} {i : Nat} {u : Value} (hb : Below (W.heap.size + 1) (W.alloc (.cells cs t)) W') (hi : cs[i]? = some u) : W'.cell? ⟨W.heap.size, i, none⟩ = some u :=
  (hb.cell (p := ⟨W.heap.size, i, none⟩) (Nat.lt_succ_self _)).trans (by rw [World.cell?_alloc_at _ _ _ _ rfl]; exact hi)
end Go.Proofs.Ytilnmfbimfmacaa
