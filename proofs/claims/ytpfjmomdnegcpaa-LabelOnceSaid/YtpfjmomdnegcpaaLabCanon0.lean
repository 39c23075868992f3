/- label: the sort of Canon lays labels of unlike names as the insertion does; a map as a set of names; a box of two cells. -/
import Derived.Test.YtpfjmomdnegcpaaLabMath
import Derived.Test.YtpfjmomdnegcpaaLabSort
import Derived.Test.YtpfjmomdnegcpaaSortRow
import Derived.Maps.OwnSet
namespace Go.Proofs.Ytpfjmomdnegcpaa.lm
open Go.RowKit Go.Sort Go.Maps

theorem cf_tless (x y : Lab) : ltOf lb.cf x y = tless x.1 y.1 := by
  have h : ltOf lb.cf x y = true ↔ tless x.1 y.1 = true := by
    unfold ltOf lb.cf
    rw [decide_eq_true_iff, cmp_lt, tless_iff, ByteArray.toList_eq, ByteArray.toList_eq]
  exact Bool.eq_iff_iff.2 h
theorem swo : SWO (ltOf lb.cf) where
  irrefl x := by rw [cf_tless, tless_irrefl]
  trans x y z h1 h2 := by rw [cf_tless] at *; exact tless_trans h1 h2
  ntrans x y z h1 h2 := by
    rw [cf_tless] at *
    by_cases e1 : x.1 = y.1
    · rw [e1]; exact h2
    · by_cases e2 : y.1 = z.1
      · rw [← e2]; exact h1
      · have h3 := (tless_total e1).resolve_left (by rw [h1]; exact Bool.false_ne_true)
        have h4 := (tless_total e2).resolve_left (by rw [h2]; exact Bool.false_ne_true)
        cases h : tless x.1 z.1 with
        | false => rfl
        | true => exact (tless_asymm h (tless_trans h4 h3)).elim
/-- the sort lays what the insertion lays -/
theorem sorted_is {l : List Lab} {d : Array Lab} (hn : (names l).Nodup) (hp : PermIn 0 l.toArray.size l.toArray d) (hs : SortedIn (ltOf lb.cf) 0 l.toArray.size d) : d.toList = sortN l := by
  obtain ⟨h1, _, h2⟩ := hp
  have e1 : (d.extract 0 l.toArray.size) = d := by rw [← h1]; simp
  have e2 : (l.toArray.extract 0 l.toArray.size).toList = l := by simp
  rw [e1, e2] at h2
  have hnd : (names d.toList).Nodup := (names_perm h2).nodup_iff.2 hn
  refine srt_unique ?_ (sortN_srt hn) (h2.trans (sortN_perm l).symm)
  unfold Srt
  rw [List.pairwise_iff_getElem]
  intro i j hi hj hij
  have hi' : i < d.size := by simpa using hi
  have hj' : j < d.size := by simpa using hj
  have h3 := hs i j (Nat.zero_le _) hij (by rw [← h1]; exact hj')
  rw [cf_tless, getElem!_pos d j hj', getElem!_pos d i hi'] at h3
  have hne : d[i].1 ≠ d[j].1 := fun e => by
    have h4 := List.pairwise_iff_getElem.1 hnd i j (by simpa [names] using hi') (by simpa [names] using hj') hij
    exact h4 (by simpa [names] using e)
  rw [Array.getElem_toList, Array.getElem_toList]
  exact (tless_total hne).resolve_right (by rw [h3]; exact Bool.false_ne_true)
/-- a map that keeps just these texts -/
def MapN (D : DataW Unit) (U : List ByteArray) : Prop := ∀ s, Maps.has D (.string s.data.toList) = decide (s ∈ U)
theorem mapN_nil : MapN (.map []) [] := fun _ => rfl
theorem mapN_put {D : DataW Unit} {U : List ByteArray} {s : ByteArray} (h : MapN D U) (hm : IsMap D) (d : DataW Unit) : MapN (D.put (.string s.data.toList) d) (U ++ [s]) := by
  intro t
  by_cases e : t = s
  · subst e
    rw [has_put_same hm (by trivial)]
    simp
  · rw [has_put_other (fun e2 => e (ByteArray.ext (Array.ext' (by simpa using e2)))), h t]
    simp [e]
end Go.Proofs.Ytpfjmomdnegcpaa.lm
namespace Go.Proofs.Ytpfjmomdnegcpaa
open Go.RowKit Go.ChangeShapes Go.Maps Go.WideMaps
theorem two {w w2 : World} {x y : Value} {t : TypeId} (hb : Below (w.alloc (.cells #[x, y] t)).heap.size (w.alloc (.cells #[x, y] t)) w2) :
    w2.cell? ⟨w.heap.size, 0, none⟩ = some x ∧ w2.cell? ⟨w.heap.size, 1, none⟩ = some y ∧ w2.frozen? ⟨w.heap.size, 0, none⟩ = false ∧ w2.frozen? ⟨w.heap.size, 1, none⟩ = false ∧ w.heap.size < w2.heap.size := by
  have hs : w.heap.size < (w.alloc (.cells #[x, y] t)).heap.size := by simp
  have c : ∀ (k : Nat) (u : Value), (#[x, y] : Array Value)[k]? = some u → w2.cell? ⟨w.heap.size, k, none⟩ = some u := fun k u hu =>
    (hb.cell (p := ⟨w.heap.size, k, none⟩) hs).trans (by rw [World.cell?_alloc_at _ _ _ _ rfl]; exact hu)
  have f : ∀ k : Nat, w2.frozen? ⟨w.heap.size, k, none⟩ = false := fun k => (hb.frozen (p := ⟨w.heap.size, k, none⟩) hs).trans (World.frozen?_alloc_at _ _ _ _ rfl)
  exact ⟨c 0 x rfl, c 1 y rfl, f 0, f 1, by have := hb.size; simp at this; omega⟩
theorem mlaw : Keyed Try.prog 9 := string_keyed Try.underlying9
theorem zeroI (w : World) : (zeroValue 3).run Try.prog w = .ok (.int .i64 0) w := by kernel_rfl
theorem look_ok {H : Type} {P : Program} {w : World} {ops : Array Oper} {rest : List Oper} {o : Oper} {a : Act} {Q : Exit → Act → World → Prop} (hg : o.guard = none) (m x : Operand) (t : TypeId) (hop : o.op = Op.lookup t m x true)
    (k e : TypeId) (q : IntKind) (K : Keyed P k) (ht : P.underlying t = some (.map k e)) (he : P.underlying e = some (.int q)) (hz : (zeroValue e).run P w = .ok (.int q 0) w) (b n : Nat) (D : DataW H)
    (hm : a.eval m = .map (some b)) (hown : w.ownsMap P k (plainElem P e) b n D) (key : Value) (kl : Lit) (hx : a.eval x = key) (hkey : keyOf P k key = some kl) (r : Bool) (hr : Maps.has D kl = r)
    (hK : ∀ c : Int, wpList P ops Q rest (a.put o.dst (.tuple #[.int q c, .bool r])) w) : wpList P ops Q (o :: rest) a w :=
  wpList_lookup_own_ok_int w hg m x t hop k e q K ht he hz b n D hm hown key kl hx hkey fun c _ _ => hr ▸ hK c
theorem infoLab : (Try.prog.info? 38).map (fun i => (i.zero, i.size, i.bytes)) = some (some (.agg #[.string ⟨#[]⟩, .string ⟨#[]⟩]), 2, 32) := by kernel_rfl
/-- labels, and an error's number -/
def CanonP (r : Int × List Lab) (w : World) (e : Ending) (w' : World) : Prop := ∃ v, e = .returned (.tuple #[v, .int .i64 r.1]) ∧ Labs w' w'.heap.size v r.2 ∧ Below w.heap.size w w'
theorem lcells_app (a b : List Lab) : lcells (a ++ b) = lcells a ++ lcells b := by simp [lcells]
theorem lcells_one : ∀ {l : List Lab}, ∀ u ∈ lcells l, u.oneCell' = true := by
  intro l u hu
  obtain ⟨x, _, h⟩ := List.mem_flatMap.1 hu
  simp only [List.mem_cons, List.not_mem_nil, or_false] at h
  rcases h with rfl | rfl <;> rfl
theorem own_form {w : World} {B n k : Nat} {e : TypeId} {v : Value} {xs : List Value} (h : w.ownsRow B e k v n xs) : (v = .slice none 0 0 ∧ n = 0) ∨ ∃ g cap, v = .slice (some ⟨g, 0, none⟩) n cap ∧ B ≤ g := by
  rcases h.2 with ⟨rfl, hx⟩ | ⟨g, cap, cur, rfl, hbg, _⟩
  · exact Or.inl ⟨rfl, hx⟩
  · exact Or.inr ⟨g, cap, rfl, hbg⟩
end Go.Proofs.Ytpfjmomdnegcpaa
