/- the reader: gather, of patterns none of which is of the kind. -/
import Derived.Test.YtbccejlemhgioaaRxFn3
namespace Go.Proofs.Ytbccejlemhgioaa
open Go Go.RowKit Go.ChangeShapes cl rx
/-- patterns of the call's own, each apart from the row that holds them -/
def RxO (B : Nat) (d : Nat) (L : List Pat) (v : Value) (W : World) : Prop := ∃ cs : List (List Value), cs.length = L.length ∧ (∀ (j : Nat) (c : List Value) (x : Pat), cs[j]? = some c → L[j]? = some x → FreA B v.ownBlock W (fun W => c.length = 8 ∧ rxR d W W.heap.size c x)) ∧ W.ownsRow B 28 8 v L.length cs.flatten
theorem RxO.next {B d : Nat} {L : List Pat} {v : Value} {W W' : World} (h : RxO B d L v W) (hb : Below W.heap.size W W') : RxO B d L v W' := by
  obtain ⟨cs, h0, h1, h2⟩ := h
  exact ⟨cs, h0, fun j c x hc hx => (h1 j c x hc hx).next hb, own_stay h2 hb⟩
theorem RxO.kx {B d q : Nat} {L : List Pat} {v : Value} {W W' : World} (h : RxO B d L v W) (hk : KX q W W') (hq : q < B) : RxO B d L v W' := by
  obtain ⟨cs, h0, h1, h2⟩ := h
  exact ⟨cs, h0, fun j c x hc hx => FreA.step (h1 j c x hc hx) hk.2.1 (fun j hB hj _ => hk.2.2 j hj (by omega)) (Or.inl rfl), own_kx h2 hk hq⟩
theorem RxO.nil {B d : Nat} {W : World} : RxO B d [] (.slice none 0 0) W := ⟨[], rfl, fun j c x hc => by simp at hc, World.ownsRow_nil _ _ _ _⟩
theorem flat_none {kind : Int} {l : List Pat} (h : ∀ x ∈ l, x.k ≠ kind) : Pat.flat kind l = l := by
  induction l with
  | nil => rfl
  | cons x r ih =>
    show (if x.k = kind then x.ks else [x]) ++ Pat.flat kind r = x :: r
    rw [if_neg (h x (by simp)), ih (fun y hy => h y (by simp [hy]))]; rfl
theorem gather_none {kind : Int} {l : List Pat} (h : ∀ x ∈ l, x.k ≠ kind) : (l = [] → Pat.gather kind l = .mk 1 .zero [] 0 0) ∧ (∀ x, l = [x] → Pat.gather kind l = x) ∧ (2 ≤ l.length → Pat.gather kind l = .mk kind .zero l 0 0) := by
  have hf := flat_none h
  refine ⟨fun e => ?_, fun x e => ?_, fun hl => ?_⟩
  · subst e; rfl
  · subst e
    unfold Pat.gather
    rw [hf]
  · unfold Pat.gather
    rw [hf]
    match l, hl with
    | a :: b :: r, _ => rfl
theorem rx_one {d : Nat} {w : World} {B : Nat} {c : List Value} {x : Pat} (h : rxR d w B c x) : c.length = 8 ∧ ∀ u ∈ c, u.oneCell' = true := by
  obtain ⟨ko, kn, kc, rfl⟩ := rx_form h
  refine ⟨rfl, fun u hu => ?_⟩
  simp only [List.mem_cons, List.not_mem_nil, or_false] at hu
  rcases hu with rfl | rfl | rfl | rfl | rfl | rfl | rfl | rfl <;> rfl
set_option maxHeartbeats 6400000 in
set_option maxRecDepth 100000 in
theorem rx_gather (kind : Int) (B d : Nat) (l : List Pat) (v : Value) (w : World) (h : RxO B d l v w) (hB : B ≤ w.heap.size) (hk : ∀ x ∈ l, x.k ≠ kind) (hl : l.length ≤ 1000) : Calls Try.prog 28 #[.int .i64 kind, v] w (fun e w' => ∃ c, e = .returned (.agg (List.toArray c)) ∧ Fre B w' (fun W => rxR (d + 1) W W.heap.size c (Pat.gather kind l)) ∧ Below w.heap.size w w') := by
  obtain ⟨n, hn⟩ : ∃ n, n = l.length := ⟨_, rfl⟩
  obtain ⟨cs, h0, h1, h2⟩ := h
  rw [← hn] at h2
  obtain ⟨vo, vc, rfl⟩ := own_slice h2
  have hall : ∀ c ∈ cs, c.length = 8 := by
    intro c hc
    obtain ⟨j, hj, rfl⟩ := List.mem_iff_getElem.1 hc
    exact (h1 j _ l[j] (List.getElem?_eq_getElem hj) (List.getElem?_eq_getElem (by omega))).at.1
  obtain ⟨q1, hq1⟩ : ∃ q1, q1 = w.heap.size := ⟨_, rfl⟩
  obtain ⟨W3, hW3⟩ : ∃ W, W = w.alloc (.cells #[.int .i64 0, .int .u64 0, .int .u64 0, .int .u64 0, .int .u64 0, .slice none 0 0, .int .i64 0, .int .i64 0] 28) := ⟨_, rfl⟩
  have b3 : Below w.heap.size w W3 := by rw [hW3]; exact below1
  have Z3 : Hid (W3.heap[q1]? = some (.cells #[.int .i64 0, .int .u64 0, .int .u64 0, .int .u64 0, .int .u64 0, .slice none 0 0, .int .i64 0, .int .i64 0] 28)) := by show _ = _; rw [hW3, hq1]; exact heap_alloc_new _ _
  have B3 := Lib.hid b3
  have HW3 := Lib.hid hW3
  have HQ1 := Lib.hid hq1
  have HO := Lib.hid h2
  have H1 := Lib.hid h1
  have HN := Lib.hid hn
  have H0 : Hid (cs.length = n) := by show _ = _; rw [h0, hn]
  have HALL := Lib.hid hall
  have HK := Lib.hid hk
  have HB := Lib.hid hB
  have HG := Lib.hid (gather_none hk)
  have hn1 : n ≤ 1000 := by omega
  obtain ⟨gp, hgp⟩ : ∃ g, g = Pat.gather kind l := ⟨_, rfl⟩
  rw [← hgp] at HG ⊢
  clear h0 h1 h2 hall hn hq1 hW3 b3 hk hl hgp
  go_enter Try.func28, Try.ntmps28
  go_wp2
  rw [← HW3.out, ← HQ1.out]
  go_loopw [5, 10, 26] (fun o i _ wr => ∃ (k : Nat) (ro : Option Addr) (rc : Nat), i = .int .i64 k ∧ k ≤ n ∧ o = .slice ro k rc ∧ Hid (wr.ownsRow W3.heap.size 28 8 (.slice ro k rc) k (cs.take k).flatten) ∧ Below W3.heap.size W3 wr) (fun _ i _ _ => n - (intOf i).toNat)
  case atStart => exact ⟨0, none, 0, rfl, Nat.zero_le _, rfl, World.ownsRow_nil _ _ _ _, Below.refl _ _⟩
  case round =>
    obtain ⟨k, ro, rc, rfl, hk, rfl, HR, hbl⟩ := hrel
    have BW : Hid (Below w.heap.size w wr) := B3.out.trans (hbl.mono B3.out.size)
    have HBL := Lib.hid hbl
    clear hbl
    by_cases hlt : k < n
    · have hkI : (k : Int) < (n : Int) := by omega
      obtain ⟨x, c, hx, hc⟩ : ∃ x c, l[k]? = some x ∧ cs[k]? = some c := ⟨_, _, List.getElem?_eq_getElem (by rw [← HN.out]; exact hlt), List.getElem?_eq_getElem (by rw [H0.out]; exact hlt)⟩
      obtain ⟨hc8, hcx⟩ := (H1.out k c x hc hx).at
      obtain ⟨ko, kn, kc, rfl⟩ := rx_form hcx
      have hxk : x.k ≠ kind := HK.out x (List.mem_of_getElem? hx)
      obtain ⟨g, rfl⟩ : ∃ g, vo = some ⟨g, 0, none⟩ := by
        rcases HO.out.2 with ⟨_, h⟩ | ⟨g, cap, cur, e, _⟩
        · omega
        · simp only [Value.slice.injEq] at e
          exact ⟨g, e.1⟩
      have hO := own_stay HO.out BW.out
      have hcell : ∀ i u, [.int .i64 x.k, .int .u64 x.cl.a, .int .u64 x.cl.b, .int .u64 x.cl.c, .int .u64 x.cl.d, .slice ko kn kc, .int .i64 x.mn, .int .i64 x.mx][i]? = some u → wr.cell? ⟨g, k * 8 + i, none⟩ = some u := by
        intro i u hu
        have hi : i < 8 := (List.getElem?_eq_some_iff.1 hu).1
        have h5 := hO.cells (g := g) rfl (k * 8 + i) u (by rw [flat_get cs HALL.out k _ i hc hi]; exact hu)
        rw [Addr.add_lit, Nat.zero_add] at h5
        exact h5
      have z0 : wr.cell? ⟨g, k * 8, none⟩ = _ := hcell 0 _ rfl
      have z1 := hcell 1 _ rfl
      have z2 := hcell 2 _ rfl
      have z3 := hcell 3 _ rfl
      have z4 := hcell 4 _ rfl
      have z5 := hcell 5 _ rfl
      have z6 := hcell 6 _ rfl
      have z7 := hcell 7 _ rfl
      have HTK : Hid ((cs.take (k + 1)).flatten = (cs.take k).flatten ++ [.int .i64 x.k, .int .u64 x.cl.a, .int .u64 x.cl.b, .int .u64 x.cl.c, .int .u64 x.cl.d, .slice ko kn kc, .int .i64 x.mn, .int .i64 x.mx]) := by
        show _ = _
        rw [List.take_add_one, hc]; simp
      have hneb : (x.k == kind) = false := beq_eq_false_iff_ne.2 hxk
      obtain ⟨W4, hW4⟩ : ∃ W, W = wr.alloc (.cells #[.int .i64 x.k, .int .u64 x.cl.a, .int .u64 x.cl.b, .int .u64 x.cl.c, .int .u64 x.cl.d, .slice ko kn kc, .int .i64 x.mn, .int .i64 x.mx] 28) := ⟨_, rfl⟩
      have b4 : Below wr.heap.size wr W4 := by rw [hW4]; exact below1
      have x4 : W4.heap[wr.heap.size]? = some (.cells #[.int .i64 x.k, .int .u64 x.cl.a, .int .u64 x.cl.b, .int .u64 x.cl.c, .int .u64 x.cl.d, .slice ko kn kc, .int .i64 x.mn, .int .i64 x.mx] 28) := by rw [hW4]; exact heap_alloc_new _ _
      have O4 := Lib.hid (own_stay HR.out b4)
      have B4 := Lib.hid (HBL.out.trans (b4.mono HBL.out.size))
      have HS4 : Hid (W3.heap.size ≤ W4.heap.size) := B4.out.size
      have S4 : Hid (wr.heap.size + 1 = W4.heap.size) := by show _ = _; rw [hW4, World.size_alloc]
      have y0 := boxc x4 0 _ rfl
      have y1 := boxc x4 1 _ rfl
      have y2 := boxc x4 2 _ rfl
      have y3 := boxc x4 3 _ rfl
      have y4 := boxc x4 4 _ rfl
      have y5 := boxc x4 5 _ rfl
      have y6 := boxc x4 6 _ rfl
      have y7 := boxc x4 7 _ rfl
      rw [hW4] at y0 y1 y2 y3 y4 y5 y6 y7
      have HW4 := Lib.hid hW4
      have hkb : (k + 1) * 80 ≤ 140737488355328 := by omega
      clear hcell hO hcx hc8 hc hx hW4 b4 x4
      go_wp2_with (at_builtin; rw [← HW4.out]; refine kit.app1k (wr.heap.size + 1) S4.out (.tmp 22) (.tmp 24) 26 rfl rfl W3.heap.size Try.underlying26 infoRx rfl (by decide) (by decide) O4.out rfl rfl rfl (by simp [Value.oneCell']) hkb HS4.out ?_)
      intro v9 w9 hO9 hg9 hv9
      obtain ⟨ro9, rc9, rfl⟩ := own_slice hO9
      have R9 : Hid (w9.ownsRow W3.heap.size 28 8 (.slice ro9 (k + 1) rc9) (k + 1) (cs.take (k + 1)).flatten) := by
        show World.ownsRow _ _ _ _ _ _ _
        rw [HTK.out]; exact hO9
      have B9 := Lib.hid (B4.out.trans (app_below O4.out HS4.out hg9))
      clear hO9 hg9 hv9 y0 y1 y2 y3 y4 y5 y6 y7 z0 z1 z2 z3 z4 z5 z6 z7
      go_wp2
      go_roundw
      case rel => exact ⟨k + 1, ro9, rc9, by go_num, by omega, rfl, R9, B9.out⟩
      case measure => simp [intOf]; omega
    · obtain rfl : k = n := by omega
      have ZZ := Lib.hid ((HBL.out.block _ (lt_of_block Z3.out)).trans Z3.out)
      have HRN : Hid (wr.ownsRow W3.heap.size 28 8 (.slice ro k rc) k cs.flatten) := by
        have := HR.out
        rwa [List.take_of_length_le (by rw [H0.out]; exact Nat.le_refl _)] at this
      have H13 : Hid (q1 < W3.heap.size) := lt_of_block Z3.out
      have HBQ : Hid (B ≤ q1) := by show _ ≤ _; rw [HQ1.out]; exact HB.out
      have HEV : Hid (∀ (ca : Array Value) (V : World), (World.setRow wr q1 ca).heap.size ≤ V.heap.size → (∀ j, B ≤ j → j < (World.setRow wr q1 ca).heap.size → some j ≠ none → V.heap[j]? = (World.setRow wr q1 ca).heap[j]?) → ∀ (j : Nat) (c : List Value) (x : Pat), cs[j]? = some c → l[j]? = some x → c.length = 8 ∧ rxR d V V.heap.size c x) := fun ca V hs hk j c x hc hx => H1.out j c x hc hx V (by rw [setRow_size] at hs; exact Nat.le_trans BW.out.size hs) (fun i hB hi _ => by
        have := BW.out.size
        rw [hk i hB (by rw [setRow_size]; omega) (by simp), setRow_other _ _ _ _ (by have := HQ1.out; omega), BW.out.block i hi])
      have HRV : Hid (∀ (ca : Array Value) (V : World), (∀ j, B ≤ j → j < (World.setRow wr q1 ca).heap.size → some j ≠ none → V.heap[j]? = (World.setRow wr q1 ca).heap[j]?) → V.ownsRow W3.heap.size 28 8 (.slice ro k rc) k cs.flatten) := fun ca V hk => own_fre HRN.out (fun i hB hi => by
        rw [hk i (by have := HBQ.out; have := H13.out; omega) (by rw [setRow_size]; exact hi) (by simp), setRow_other _ _ _ _ (by have := H13.out; omega)])
      by_cases k0 : k = 0
      · subst k0
        have HGP : Hid (gp = .mk 1 .zero [] 0 0) := HG.out.1 (List.eq_nil_of_length_eq_zero HN.out.symm)
        go_wp2_with ((with_reducible show wpList _ _ _ (Oper.mk _ (Op.store 28 (.tmp 4) _) _ _ _ _ :: _) _ _); refine wpList_store_row rfl 28 (.tmp 4) _ rfl (q1) #[.int .i64 1, .int .u64 0, .int .u64 0, .int .u64 0, .int .u64 0, .slice none 0 0, .int .i64 0, .int .i64 0] rfl rfl 28 #[.int .i64 0, .int .u64 0, .int .u64 0, .int .u64 0, .int .u64 0, .slice none 0 0, .int .i64 0, .int .i64 0] ZZ.out rsize rfl (by simp [Value.oneCell']) ?_)
        have cc := setRow_heap _ q1 _ #[.int .i64 1, .int .u64 0, .int .u64 0, .int .u64 0, .int .u64 0, .slice none 0 0, .int .i64 0, .int .i64 0] _ _ ZZ.out
        have bb : Below w.heap.size w (World.setRow wr q1 #[.int .i64 1, .int .u64 0, .int .u64 0, .int .u64 0, .int .u64 0, .slice none 0 0, .int .i64 0, .int .i64 0]) := below_setRow BW.out (g := q1) (by rw [HQ1.out]; exact Nat.le_refl _) _
        have ff : Fre B (World.setRow wr q1 #[.int .i64 1, .int .u64 0, .int .u64 0, .int .u64 0, .int .u64 0, .slice none 0 0, .int .i64 0, .int .i64 0]) (fun W => rxR (d + 1) W W.heap.size [.int .i64 1, .int .u64 0, .int .u64 0, .int .u64 0, .int .u64 0, .slice none 0 0, .int .i64 0, .int .i64 0] gp) := fun W _ _ => by rw [HGP.out]; exact ⟨none, 0, 0, rfl, RowsAt.nil _ _⟩
        obtain ⟨w9, h9⟩ : ∃ W, W = World.setRow wr q1 #[.int .i64 1, .int .u64 0, .int .u64 0, .int .u64 0, .int .u64 0, .slice none 0 0, .int .i64 0, .int .i64 0] := ⟨_, rfl⟩
        rw [← h9] at cc bb ff ⊢
        clear h9
        have k0 := boxc cc 0 _ rfl
        have k1 := boxc cc 1 _ rfl
        have k2 := boxc cc 2 _ rfl
        have k3 := boxc cc 3 _ rfl
        have k4 := boxc cc 4 _ rfl
        have k5 := boxc cc 5 _ rfl
        have k6 := boxc cc 6 _ rfl
        have k7 := boxc cc 7 _ rfl
        refine bodyPost_ret (v := .agg #[.int .i64 1, .int .u64 0, .int .u64 0, .int .u64 0, .int .u64 0, .slice none 0 0, .int .i64 0, .int .i64 0]) (by simp [results, Try.results28, go_sem, k0, k1, k2, k3, k4, k5, k6, k7]) rfl ?_
        exact ⟨[.int .i64 1, .int .u64 0, .int .u64 0, .int .u64 0, .int .u64 0, .slice none 0 0, .int .i64 0, .int .i64 0], rfl, ff, bb⟩
      by_cases k1 : k = 1
      · have HK1 := Lib.hid k1
        obtain ⟨x, hlx⟩ : ∃ x, l = [x] := by
          have := HN.out
          match l, this with
          | [x], _ => exact ⟨x, rfl⟩
          | [], h => simp at h; omega
          | _ :: _ :: _, h => simp at h; omega
        obtain ⟨c, hcs⟩ : ∃ c, cs = [c] := by
          have := H0.out
          match cs, this with
          | [c], _ => exact ⟨c, rfl⟩
          | [], h => simp at h; omega
          | _ :: _ :: _, h => simp at h; omega
        have HGP : Hid (gp = x) := HG.out.2.1 x hlx
        obtain ⟨ko, kn, kc, rfl⟩ := rx_form (H1.out 0 c x (by rw [hcs]; rfl) (by rw [hlx]; rfl)).at.2
        have HCS : Hid (cs[0]? = some [.int .i64 x.k, .int .u64 x.cl.a, .int .u64 x.cl.b, .int .u64 x.cl.c, .int .u64 x.cl.d, .slice ko kn kc, .int .i64 x.mn, .int .i64 x.mx]) := by show _ = _; rw [hcs]; rfl
        have HLX : Hid (l[0]? = some x) := by show _ = _; rw [hlx]; rfl
        obtain ⟨g, rfl⟩ : ∃ g, ro = some ⟨g, 0, none⟩ := by
          rcases HRN.out.2 with ⟨_, h⟩ | ⟨g, cap, cur, e, _⟩
          · omega
          · simp only [Value.slice.injEq] at e
            exact ⟨g, e.1⟩
        have hcell : ∀ i u, [.int .i64 x.k, .int .u64 x.cl.a, .int .u64 x.cl.b, .int .u64 x.cl.c, .int .u64 x.cl.d, .slice ko kn kc, .int .i64 x.mn, .int .i64 x.mx][i]? = some u → wr.cell? ⟨g, i, none⟩ = some u := by
          intro i u hu
          have h5 := HRN.out.cells (g := g) rfl i u (by rw [hcs]; simpa using hu)
          rw [Addr.add_lit, Nat.zero_add] at h5
          exact h5
        have z0 := hcell 0 _ rfl
        have z1 := hcell 1 _ rfl
        have z2 := hcell 2 _ rfl
        have z3 := hcell 3 _ rfl
        have z4 := hcell 4 _ rfl
        have z5 := hcell 5 _ rfl
        have z6 := hcell 6 _ rfl
        have z7 := hcell 7 _ rfl
        subst k1
        clear hcell hlx hcs
        go_wp2_with ((with_reducible show wpList _ _ _ (Oper.mk _ (Op.store 28 (.tmp 4) _) _ _ _ _ :: _) _ _); refine wpList_store_row rfl 28 (.tmp 4) _ rfl (q1) #[.int .i64 x.k, .int .u64 x.cl.a, .int .u64 x.cl.b, .int .u64 x.cl.c, .int .u64 x.cl.d, .slice ko kn kc, .int .i64 x.mn, .int .i64 x.mx] rfl rfl 28 #[.int .i64 0, .int .u64 0, .int .u64 0, .int .u64 0, .int .u64 0, .slice none 0 0, .int .i64 0, .int .i64 0] ZZ.out rsize rfl (by simp [Value.oneCell']) ?_)
        have cc := setRow_heap _ q1 _ #[.int .i64 x.k, .int .u64 x.cl.a, .int .u64 x.cl.b, .int .u64 x.cl.c, .int .u64 x.cl.d, .slice ko kn kc, .int .i64 x.mn, .int .i64 x.mx] _ _ ZZ.out
        have bb : Below w.heap.size w (World.setRow wr q1 #[.int .i64 x.k, .int .u64 x.cl.a, .int .u64 x.cl.b, .int .u64 x.cl.c, .int .u64 x.cl.d, .slice ko kn kc, .int .i64 x.mn, .int .i64 x.mx]) := below_setRow BW.out (g := q1) (by rw [HQ1.out]; exact Nat.le_refl _) _
        have ff : Fre B (World.setRow wr q1 #[.int .i64 x.k, .int .u64 x.cl.a, .int .u64 x.cl.b, .int .u64 x.cl.c, .int .u64 x.cl.d, .slice ko kn kc, .int .i64 x.mn, .int .i64 x.mx]) (fun W => rxR (d + 1) W W.heap.size [.int .i64 x.k, .int .u64 x.cl.a, .int .u64 x.cl.b, .int .u64 x.cl.c, .int .u64 x.cl.d, .slice ko kn kc, .int .i64 x.mn, .int .i64 x.mx] gp) := fun V hs hk => by rw [HGP.out]; exact rxR_up d _ _ _ _ (HEV.out _ V hs hk 0 _ x HCS.out HLX.out).2
        obtain ⟨w9, h9⟩ : ∃ W, W = World.setRow wr q1 #[.int .i64 x.k, .int .u64 x.cl.a, .int .u64 x.cl.b, .int .u64 x.cl.c, .int .u64 x.cl.d, .slice ko kn kc, .int .i64 x.mn, .int .i64 x.mx] := ⟨_, rfl⟩
        rw [← h9] at cc bb ff ⊢
        clear h9
        have k0 := boxc cc 0 _ rfl
        have k1 := boxc cc 1 _ rfl
        have k2 := boxc cc 2 _ rfl
        have k3 := boxc cc 3 _ rfl
        have k4 := boxc cc 4 _ rfl
        have k5 := boxc cc 5 _ rfl
        have k6 := boxc cc 6 _ rfl
        have k7 := boxc cc 7 _ rfl
        refine bodyPost_ret (v := .agg #[.int .i64 x.k, .int .u64 x.cl.a, .int .u64 x.cl.b, .int .u64 x.cl.c, .int .u64 x.cl.d, .slice ko kn kc, .int .i64 x.mn, .int .i64 x.mx]) (by simp [results, Try.results28, go_sem, k0, k1, k2, k3, k4, k5, k6, k7]) rfl ?_
        exact ⟨[.int .i64 x.k, .int .u64 x.cl.a, .int .u64 x.cl.b, .int .u64 x.cl.c, .int .u64 x.cl.d, .slice ko kn kc, .int .i64 x.mn, .int .i64 x.mx], rfl, ff, bb⟩
      have hk2 : 2 ≤ k := by omega
      have HGP : Hid (gp = .mk kind .zero l 0 0) := HG.out.2.2 (by rw [← HN.out]; exact hk2)
      have i0 : ¬ (k : Int) = 0 := by omega
      have i1 : ¬ (k : Int) = 1 := by omega
      have b0 : ((k : Int) == 0) = false := beq_eq_false_iff_ne.2 i0
      have b1 : ((k : Int) == 1) = false := beq_eq_false_iff_ne.2 i1
      go_wp2_with ((with_reducible show wpList _ _ _ (Oper.mk _ (Op.store 28 (.tmp 4) _) _ _ _ _ :: _) _ _); refine wpList_store_row rfl 28 (.tmp 4) _ rfl (q1) #[.int .i64 kind, .int .u64 0, .int .u64 0, .int .u64 0, .int .u64 0, .slice ro k rc, .int .i64 0, .int .i64 0] rfl rfl 28 #[.int .i64 0, .int .u64 0, .int .u64 0, .int .u64 0, .int .u64 0, .slice none 0 0, .int .i64 0, .int .i64 0] ZZ.out rsize rfl (by simp [Value.oneCell']) ?_)
      have cc := setRow_heap _ q1 _ #[.int .i64 kind, .int .u64 0, .int .u64 0, .int .u64 0, .int .u64 0, .slice ro k rc, .int .i64 0, .int .i64 0] _ _ ZZ.out
      have bb : Below w.heap.size w (World.setRow wr q1 #[.int .i64 kind, .int .u64 0, .int .u64 0, .int .u64 0, .int .u64 0, .slice ro k rc, .int .i64 0, .int .i64 0]) := below_setRow BW.out (g := q1) (by rw [HQ1.out]; exact Nat.le_refl _) _
      have ff : Fre B (World.setRow wr q1 #[.int .i64 kind, .int .u64 0, .int .u64 0, .int .u64 0, .int .u64 0, .slice ro k rc, .int .i64 0, .int .i64 0]) (fun W => rxR (d + 1) W W.heap.size [.int .i64 kind, .int .u64 0, .int .u64 0, .int .u64 0, .int .u64 0, .slice ro k rc, .int .i64 0, .int .i64 0] gp) := fun V hs hk => by rw [HGP.out]; exact ⟨ro, k, rc, rfl, RowsAt.own HN.out (by rw [H0.out]; exact HN.out) (HEV.out _ V hs hk) (HRV.out _ V hk)⟩
      obtain ⟨w9, h9⟩ : ∃ W, W = World.setRow wr q1 #[.int .i64 kind, .int .u64 0, .int .u64 0, .int .u64 0, .int .u64 0, .slice ro k rc, .int .i64 0, .int .i64 0] := ⟨_, rfl⟩
      rw [← h9] at cc bb ff ⊢
      clear h9
      have k0 := boxc cc 0 _ rfl
      have k1 := boxc cc 1 _ rfl
      have k2 := boxc cc 2 _ rfl
      have k3 := boxc cc 3 _ rfl
      have k4 := boxc cc 4 _ rfl
      have k5 := boxc cc 5 _ rfl
      have k6 := boxc cc 6 _ rfl
      have k7 := boxc cc 7 _ rfl
      refine bodyPost_ret (v := .agg #[.int .i64 kind, .int .u64 0, .int .u64 0, .int .u64 0, .int .u64 0, .slice ro k rc, .int .i64 0, .int .i64 0]) (by simp [results, Try.results28, go_sem, k0, k1, k2, k3, k4, k5, k6, k7]) rfl ?_
      exact ⟨[.int .i64 kind, .int .u64 0, .int .u64 0, .int .u64 0, .int .u64 0, .slice ro k rc, .int .i64 0, .int .i64 0], rfl, ff, bb⟩
end Go.Proofs.Ytbccejlemhgioaa
