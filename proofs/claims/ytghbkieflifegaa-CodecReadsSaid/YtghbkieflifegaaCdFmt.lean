/- codec: what is written is read, and what is read was written; what is cut off is too short. Nothing of the program. -/
import Derived.Test.YtghbkieflifegaaCdRMath
namespace Go.Proofs.Ytghbkieflifegaa.cd

/-- what is written at a place is read there, and the place behind it is told -/
def Back {α : Type} (f : α → W) (r : List Nat → Nat → Rs α) : Prop := ∀ (x : α) (b : List Nat), f x = some b → ∀ (L : List Nat) (a : Nat) (t : List Nat), a ≤ L.length → L.drop a = b ++ t → r L a = .ok (x, a + b.length)
/-- what is read there was written so -/
def Forth {α : Type} (f : α → W) (r : List Nat → Nat → Rs α) : Prop := ∀ (L : List Nat), (∀ x ∈ L, x < 256) → ∀ (a : Nat) (x : α) (k : Nat), a ≤ L.length → r L a = .ok (x, k) → ∃ b, f x = some b ∧ k = a + b.length ∧ k ≤ L.length ∧ (L.drop a).take b.length = b
/-- what is cut off is too short -/
def Cut {α : Type} (f : α → W) (r : List Nat → Nat → Rs α) : Prop := ∀ (x : α) (b : List Nat), f x = some b → ∀ (L : List Nat) (a j : Nat), a ≤ L.length → L.drop a = b.take j → j < b.length → r L a = .error 2

theorem num_inv {n : Int} {b : List Nat} (h : num n = some b) : ∃ m : Nat, n = (m : Int) ∧ m ≤ 1099511627776 ∧ b = vm.enc m := by
  unfold num at h
  split at h
  · cases h
  · obtain rfl := Option.some.inj h
    exact ⟨n.toNat, by omega, by omega, rfl⟩
theorem get_drop {l : List Nat} {a : Nat} (h : a ≤ l.length) : vm.get l a = vm.place a (vm.getL (l.drop a) 0 0) := vm.get_in h
theorem numR_back {m : Nat} (hm : m ≤ 1099511627776) {L : List Nat} {a : Nat} {t : List Nat} (ha : a ≤ L.length) (h : L.drop a = vm.enc m ++ t) : numR L a = .ok (m, a + (vm.enc m).length) := by
  unfold numR
  rw [vm.get_back L a m t h hm ha, if_pos rfl]
theorem numR_cut {m j : Nat} (hm : m ≤ 1099511627776) (hj : j < (vm.enc m).length) {L : List Nat} {a : Nat} (ha : a ≤ L.length) (h : L.drop a = (vm.enc m).take j) : numR L a = .error 2 := by
  have e : vm.get L a = (0, 0, 2) := by
    rw [get_drop ha, h, vm.getL_cut 6 m 0 0 j (vm.enc_six hm) (by have := vm.enc_six hm; omega) hj]; rfl
  unfold numR
  rw [e]; rfl
theorem numR_forth {L : List Nat} (hL : ∀ x ∈ L, x < 256) {a n k : Nat} (h : numR L a = .ok (n, k)) : n ≤ 1099511627776 ∧ k = a + (vm.enc n).length ∧ k ≤ L.length ∧ (L.drop a).take (vm.enc n).length = vm.enc n := by
  rcases numR_cases L a hL with ⟨e, _, _, h'⟩ | ⟨n', k', _, hn, hk, ht, hl, h'⟩
  · rw [h] at h'; cases h'
  · rw [h] at h'; cases h'
    exact ⟨hn, hk, hl, ht⟩
/-- two things, one behind the other -/
def two {α β : Type} (f : α → W) (g : β → W) : α × β → W := fun p => app (f p.1) (g p.2)
def twoR {α β : Type} (r : List Nat → Nat → Rs α) (q : List Nat → Nat → Rs β) : List Nat → Nat → Rs (α × β) := fun L a => seqR (r L a) fun x a => seqR (q L a) fun y a => .ok ((x, y), a)
theorem drop_app {L b t : List Nat} {a : Nat} (h : L.drop a = b ++ t) : L.drop (a + b.length) = t := by
  rw [← List.drop_drop, h, List.drop_left]
theorem len_app {L b t : List Nat} {a : Nat} (ha : a ≤ L.length) (h : L.drop a = b ++ t) : a + b.length ≤ L.length := by
  have := congrArg List.length h
  rw [List.length_drop, List.length_append] at this
  omega
theorem Back.two {α β : Type} {f : α → W} {g : β → W} {r : List Nat → Nat → Rs α} {q : List Nat → Nat → Rs β} (hf : Back f r) (hg : Back g q) : Back (two f g) (twoR r q) := by
  rintro ⟨x, y⟩ b h L a t ha ht
  obtain ⟨b1, b2, h1, h2, rfl⟩ := app_eq h
  rw [List.append_assoc] at ht
  unfold twoR
  rw [seqR_ok (hf x b1 h1 L a _ ha ht), seqR_ok (hg y b2 h2 L _ t (len_app ha ht) (drop_app ht)), List.length_append, Nat.add_assoc]
theorem take_take_app {L b1 b2 : List Nat} {a : Nat} (h1 : (L.drop a).take b1.length = b1) (h2 : (L.drop (a + b1.length)).take b2.length = b2) : (L.drop a).take (b1 ++ b2).length = b1 ++ b2 := by
  rw [List.length_append, List.take_add, h1, List.drop_drop, h2]
theorem Forth.two {α β : Type} {f : α → W} {g : β → W} {r : List Nat → Nat → Rs α} {q : List Nat → Nat → Rs β} (hf : Forth f r) (hg : Forth g q) : Forth (two f g) (twoR r q) := by
  intro L hL a p k ha h
  obtain ⟨x, a1, h1, h2⟩ := seqR_inv h
  obtain ⟨y, a2, h3, h4⟩ := seqR_inv h2
  cases h4
  obtain ⟨b1, e1, k1, l1, t1⟩ := hf L hL a x a1 ha h1
  obtain ⟨b2, e2, k2, l2, t2⟩ := hg L hL a1 y k l1 h3
  refine ⟨b1 ++ b2, ?_, by rw [List.length_append]; omega, l2, take_take_app t1 (by rw [← k1]; exact t2)⟩
  show app (f x) (g y) = _
  rw [e1, e2]; rfl
theorem Cut.two {α β : Type} {f : α → W} {g : β → W} {r : List Nat → Nat → Rs α} {q : List Nat → Nat → Rs β} (hb : Back f r) (hf : Cut f r) (hg : Cut g q) : Cut (two f g) (twoR r q) := by
  rintro ⟨x, y⟩ b h L a j ha ht hj
  obtain ⟨b1, b2, h1, h2, rfl⟩ := app_eq h
  unfold twoR
  by_cases hlt : j < b1.length
  · rw [seqR_err (hf x b1 h1 L a j ha (by rw [ht, List.take_append_of_le_length (by omega)]) hlt)]
  · have e : (b1 ++ b2).take j = b1 ++ b2.take (j - b1.length) := by
      rw [List.take_append, List.take_of_length_le (by omega)]
    rw [e] at ht
    rw [seqR_ok (hb x b1 h1 L a _ ha ht), seqR_err (hg y b2 h2 L _ (j - b1.length) (len_app ha ht) (drop_app ht) (by rw [List.length_append] at hj; omega))]
/-- the same by other names -/
theorem Back.iso {α β : Type} {f : α → W} {g : β → W} {r : List Nat → Nat → Rs α} {q : List Nat → Nat → Rs β} (i : β → α) (hf : Back f r) (he : ∀ y, g y = f (i y)) (hr : ∀ L a y k, r L a = .ok (i y, k) → q L a = .ok (y, k)) : Back g q := by
  intro y b h L a t ha ht
  rw [he] at h
  exact hr L a y _ (hf (i y) b h L a t ha ht)
theorem Forth.iso {α β : Type} {f : α → W} {g : β → W} {r : List Nat → Nat → Rs α} {q : List Nat → Nat → Rs β} (i : β → α) (hf : Forth f r) (he : ∀ y, g y = f (i y)) (hr : ∀ L a y k, q L a = .ok (y, k) → r L a = .ok (i y, k)) : Forth g q := by
  intro L hL a y k ha h
  obtain ⟨b, h1, h2, h3, h4⟩ := hf L hL a (i y) k ha (hr L a y k h)
  exact ⟨b, by rw [he]; exact h1, h2, h3, h4⟩
theorem Cut.iso {α β : Type} {f : α → W} {g : β → W} {r : List Nat → Nat → Rs α} {q : List Nat → Nat → Rs β} (i : β → α) (hf : Cut f r) (he : ∀ y, g y = f (i y)) (hr : ∀ L a e, r L a = .error e → q L a = .error e) : Cut g q := by
  intro y b h L a j ha ht hj
  rw [he] at h
  exact hr L a 2 (hf (i y) b h L a j ha ht hj)

theorem seqR_assoc {α β γ : Type} (x : Rs α) (f : α → Nat → Rs β) (g : β → Nat → Rs γ) : seqR (seqR x f) g = seqR x fun v a => seqR (f v a) g := by cases x <;> rfl
theorem seqR_pure {α β : Type} (v : α) (a : Nat) (f : α → Nat → Rs β) : seqR (.ok (v, a)) f = f v a := rfl
structure Fmt {α : Type} (f : α → W) (r : List Nat → Nat → Rs α) : Prop where
  back : Back f r
  forth : Forth f r
  cut : Cut f r
theorem Fmt.two {α β : Type} {f : α → W} {g : β → W} {r : List Nat → Nat → Rs α} {q : List Nat → Nat → Rs β} (hf : Fmt f r) (hg : Fmt g q) : Fmt (two f g) (twoR r q) :=
  ⟨hf.back.two hg.back, hf.forth.two hg.forth, hf.back.two hg.back |> fun _ => Cut.two hf.back hf.cut hg.cut⟩
theorem Fmt.iso {α β : Type} {f : α → W} {g : β → W} {r : List Nat → Nat → Rs α} {q : List Nat → Nat → Rs β} (hf : Fmt f r) (i : β → α) (mk : α → β) (h1 : ∀ y, mk (i y) = y) (h2 : ∀ z, i (mk z) = z) (he : ∀ y, g y = f (i y)) (hq : ∀ L a, q L a = seqR (r L a) fun z a => .ok (mk z, a)) : Fmt g q := by
  refine ⟨hf.back.iso i he fun L a y k h => ?_, hf.forth.iso i he fun L a y k h => ?_, hf.cut.iso i he fun L a e h => ?_⟩
  · rw [hq, seqR_ok h, h1]
  · rw [hq] at h
    obtain ⟨z, a1, h3, h4⟩ := seqR_inv h
    cases h4
    rw [h2]; exact h3
  · rw [hq, seqR_err h]
/-- a number -/
def intR (L : List Nat) (a : Nat) : Rs Int := seqR (numR L a) fun n a => .ok ((n : Int), a)
theorem fmt_int : Fmt num intR := by
  refine ⟨fun x b h L a t ha ht => ?_, fun L hL a x k ha h => ?_, fun x b h L a j ha ht hj => ?_⟩
  · obtain ⟨m, rfl, hm, rfl⟩ := num_inv h
    unfold intR
    rw [seqR_ok (numR_back hm ha ht)]
  · obtain ⟨n, a1, h1, h2⟩ := seqR_inv h
    cases h2
    obtain ⟨h3, h4, h5, h6⟩ := numR_forth hL h1
    exact ⟨_, num_ok h3, h4, h5, h6⟩
  · obtain ⟨m, rfl, hm, rfl⟩ := num_inv h
    unfold intR
    rw [seqR_err (numR_cut hm hj ha ht)]
theorem txt_inv {s : ByteArray} {b : List Nat} (h : txt s = some b) : s.size ≤ 4000 ∧ b = vm.enc s.size ++ kit.bytes s := by
  unfold txt at h
  split at h
  · cases h
  · obtain rfl := Option.some.inj h
    exact ⟨by omega, rfl⟩
theorem fmt_txt : Fmt txt txtR := by
  refine ⟨fun x b h L a t ha ht => ?_, fun L hL a x k ha h => ?_, fun x b h L a j ha ht hj => ?_⟩
  · obtain ⟨hs, rfl⟩ := txt_inv h
    rw [List.append_assoc] at ht
    have hg := vm.get_back L a x.size _ ht (by omega) ha
    have hl := len_app ha ht
    have hd := drop_app ht
    have hl2 := len_app hl hd
    have := vm.getText_ok hg (by omega) (by rw [kit.bytes_len] at hl2; omega)
    unfold txtR
    rw [this, if_pos rfl]
    have e : (L.drop (a + (vm.enc x.size).length)).take x.size = kit.bytes x := by
      rw [hd, List.take_left' (kit.bytes_len x)]
    simp only [e, kit.str_bytes, List.length_append, kit.bytes_len, Nat.add_assoc]
  · rcases txtR_cases L a hL with ⟨e, _, _, h'⟩ | ⟨t, n, b, hn, h4, ht, _, hl, _, h'⟩
    · rw [h] at h'; cases h'
    · rw [h] at h'; cases h'
      obtain ⟨h3, h5, h6, h7⟩ := numR_forth hL hn
      have htl : t.length = n := by rw [ht, List.length_take, List.length_drop]; omega
      have hb : kit.bytes (kit.str t) = t := kit.bytes_str t (fun x hx => hL x (by rw [ht] at hx; exact List.mem_of_mem_drop (List.mem_of_mem_take hx)))
      have hsz : (kit.str t).size = n := by rw [kit.str_size, htl]
      refine ⟨vm.enc n ++ t, ?_, by rw [List.length_append, htl]; omega, by omega, take_take_app h7 (by rw [← h5, htl, ht])⟩
      unfold txt
      rw [if_neg (by omega), hsz, hb]
  · obtain ⟨hs, rfl⟩ := txt_inv h
    by_cases hlt : j < (vm.enc x.size).length
    · rw [List.take_append_of_le_length (by omega)] at ht
      have e : vm.get L a = (0, 0, 2) := by
        rw [get_drop ha, ht, vm.getL_cut 6 x.size 0 0 j (vm.enc_six (by omega)) (by have := vm.enc_six (n := x.size) (by omega); omega) hlt]; rfl
      unfold txtR
      rw [vm.getText_err e (by omega)]; rfl
    · have e : (vm.enc x.size ++ kit.bytes x).take j = vm.enc x.size ++ (kit.bytes x).take (j - (vm.enc x.size).length) := by
        rw [List.take_append, List.take_of_length_le (by omega)]
      rw [e] at ht
      have hg := vm.get_back L a x.size _ ht (by omega) ha
      have hll := congrArg List.length ht
      rw [List.length_drop, List.length_append, List.length_take, kit.bytes_len] at hll
      rw [List.length_append, kit.bytes_len] at hj
      have := vm.getText_short hg (by omega) (by omega)
      unfold txtR
      rw [this]; rfl
section
variable {α : Type} {f : α → W} {r : List Nat → Nat → Rs α}
theorem Fmt.rep_back (hf : Fmt f r) : ∀ (l : List α) (b : List Nat), each f l = some b → ∀ (L : List Nat) (a : Nat) (t : List Nat), a ≤ L.length → L.drop a = b ++ t → repR (r L) l.length a = .ok (l, a + b.length) := by
  intro l
  induction l with
  | nil => intro b h L a t _ _; obtain rfl := Option.some.inj h; rfl
  | cons x l ih =>
    intro b h L a t ha ht
    obtain ⟨b1, b2, h1, h2, rfl⟩ := app_eq h
    rw [List.append_assoc] at ht
    show seqR (r L a) _ = _
    rw [seqR_ok (hf.back x b1 h1 L a _ ha ht), seqR_ok (ih b2 h2 L _ t (len_app ha ht) (drop_app ht)), List.length_append, Nat.add_assoc]
theorem Fmt.rep_forth (hf : Fmt f r) {L : List Nat} (hL : ∀ x ∈ L, x < 256) : ∀ (n a : Nat) (l : List α) (k : Nat), a ≤ L.length → repR (r L) n a = .ok (l, k) → l.length = n ∧ ∃ b, each f l = some b ∧ k = a + b.length ∧ k ≤ L.length ∧ (L.drop a).take b.length = b := by
  intro n
  induction n with
  | zero => intro a l k ha h; cases h; exact ⟨rfl, [], rfl, rfl, ha, rfl⟩
  | succ n ih =>
    intro a l k ha h
    obtain ⟨x, a1, h1, h2⟩ := seqR_inv h
    obtain ⟨l1, a2, h3, h4⟩ := seqR_inv h2
    cases h4
    obtain ⟨b1, e1, k1, l1', t1⟩ := hf.forth L hL a x a1 ha h1
    obtain ⟨hn, b2, e2, k2, l2, t2⟩ := ih a1 l1 k l1' h3
    refine ⟨by rw [List.length_cons, hn], b1 ++ b2, ?_, by rw [List.length_append]; omega, l2, take_take_app t1 (by rw [← k1]; exact t2)⟩
    show app (f x) (each f l1) = _
    rw [e1, e2]; rfl
theorem Fmt.rep_cut (hf : Fmt f r) : ∀ (l : List α) (b : List Nat), each f l = some b → ∀ (L : List Nat) (a j : Nat), a ≤ L.length → L.drop a = b.take j → j < b.length → repR (r L) l.length a = .error 2 := by
  intro l
  induction l with
  | nil => intro b h L a j _ _ hj; obtain rfl := Option.some.inj h; simp at hj
  | cons x l ih =>
    intro b h L a j ha ht hj
    obtain ⟨b1, b2, h1, h2, rfl⟩ := app_eq h
    show seqR (r L a) _ = _
    by_cases hlt : j < b1.length
    · rw [seqR_err (hf.cut x b1 h1 L a j ha (by rw [ht, List.take_append_of_le_length (by omega)]) hlt)]
    · have e : (b1 ++ b2).take j = b1 ++ b2.take (j - b1.length) := by
        rw [List.take_append, List.take_of_length_le (by omega)]
      rw [e] at ht
      rw [seqR_ok (hf.back x b1 h1 L a _ ha ht), seqR_err (ih b2 h2 L _ (j - b1.length) (len_app ha ht) (drop_app ht) (by rw [List.length_append] at hj; omega))]
theorem Fmt.lst (hf : Fmt f r) : Fmt (lst f) (fun L a => lstR L (r L) a) := by
  have hinv : ∀ {l : List α} {b : List Nat}, cd.lst f l = some b → l.length ≤ 4000 ∧ ∃ b1, b = vm.enc l.length ++ b1 ∧ each f l = some b1 := by
    intro l b h
    unfold cd.lst at h
    split at h
    · cases h
    · obtain ⟨b0, b1, h1, h2, rfl⟩ := app_eq h
      rw [num_ok (by omega)] at h1
      cases h1
      exact ⟨by omega, b1, rfl, h2⟩
  refine ⟨fun l b h L a t ha ht => ?_, fun L hL a l k ha h => ?_, fun l b h L a j ha ht hj => ?_⟩
  · obtain ⟨h4, b1, rfl, h2⟩ := hinv h
    rw [List.append_assoc] at ht
    unfold lstR
    rw [seqR_ok (numR_back (by omega) ha ht), if_neg (by omega), hf.rep_back l b1 h2 L _ t (len_app ha ht) (drop_app ht), List.length_append, Nat.add_assoc]
  · obtain ⟨n, a1, h1, h2⟩ := seqR_inv h
    obtain ⟨h3, h5, h6, h7⟩ := numR_forth hL h1
    by_cases h4 : 4000 < n
    · rw [if_pos h4] at h2; cases h2
    · rw [if_neg h4] at h2
      obtain ⟨hn, b, e, hk, hkl, ht⟩ := hf.rep_forth hL n a1 l k h6 h2
      subst hn
      refine ⟨vm.enc l.length ++ b, ?_, by rw [List.length_append]; omega, hkl, take_take_app h7 (by rw [← h5]; exact ht)⟩
      unfold cd.lst
      rw [if_neg h4, num_ok (by omega), e]; rfl
  · obtain ⟨h4, b1, rfl, h2⟩ := hinv h
    unfold lstR
    by_cases hlt : j < (vm.enc l.length).length
    · rw [List.take_append_of_le_length (by omega)] at ht
      rw [seqR_err (numR_cut (by omega) hlt ha ht)]
    · have e : (vm.enc l.length ++ b1).take j = vm.enc l.length ++ b1.take (j - (vm.enc l.length).length) := by
        rw [List.take_append, List.take_of_length_le (by omega)]
      rw [e] at ht
      rw [seqR_ok (numR_back (by omega) ha ht), if_neg (by omega)]
      exact hf.rep_cut l b1 h2 L _ (j - (vm.enc l.length).length) (len_app ha ht) (drop_app ht) (by rw [List.length_append] at hj; omega)
end
theorem one_num (n : Int) : each num [n] = num n := app_nil _
theorem fmt_dot : Fmt dot dotR := (fmt_int.two fmt_int).iso id id (fun _ => rfl) (fun _ => rfl) (fun d => by show app _ (app (num d.2) (some [])) = app _ _; rw [app_nil]; rfl) (fun L a => by unfold dotR twoR intR; simp only [seqR_assoc, seqR_pure, id])
theorem fmt_lnk : Fmt lnk lnkR := (fmt_int.two fmt_dot).iso id id (fun _ => rfl) (fun _ => rfl) (fun d => by show app (each num [d.1]) _ = app _ _; rw [one_num]; rfl) (fun L a => by unfold lnkR twoR intR; simp only [seqR_assoc, seqR_pure, id])
theorem fmt_ent : Fmt ent entR := (fmt_txt.two (fmt_dot.two (fmt_int.two fmt_lnk.lst))).iso (fun e => (e.s, e.d, e.t, e.l)) (fun p => ⟨p.1, p.2.1, p.2.2.1, p.2.2.2⟩) (fun _ => rfl) (fun _ => rfl) (fun e => by show app _ (app _ (app (each num [e.t]) _)) = app _ (app _ (app _ _)); rw [one_num]) (fun L a => by unfold entR twoR intR; simp only [seqR_assoc, seqR_pure])
theorem fmt_ctx : Fmt (fun p : List D × List D => ctx p.1 p.2) ctxR := (fmt_dot.lst.two fmt_dot.lst).iso id id (fun _ => rfl) (fun _ => rfl) (fun d => rfl) (fun L a => by unfold ctxR twoR; simp only [seqR_assoc, seqR_pure, id])
theorem fmt_del : Fmt (fun p : List Ent × List D × List D × List D => del p.1 p.2.1 p.2.2.1 p.2.2.2) delR := (fmt_ent.lst.two (fmt_dot.lst.two fmt_ctx)).iso id id (fun _ => rfl) (fun _ => rfl) (fun d => rfl) (fun L a => by unfold delR twoR; simp only [seqR_assoc, seqR_pure, id])
theorem fmt_msg : Fmt msg msgR :=
  (fmt_int.two (fmt_int.two (fmt_int.two (fmt_int.two (fmt_int.two (fmt_del.two (fmt_ctx.two (fmt_int.two (fmt_txt.two (fmt_txt.two (fmt_txt.lst.two fmt_int))))))))))).iso
    (fun m => (m.k, m.f, m.to, m.g, m.n, (m.e, m.al, m.dv, m.dc), (m.v, m.c), m.ki, m.mn, m.mv, m.s, m.er))
    (fun p => ⟨p.1, p.2.1, p.2.2.1, p.2.2.2.1, p.2.2.2.2.1, p.2.2.2.2.2.1.1, p.2.2.2.2.2.1.2.1, p.2.2.2.2.2.1.2.2.1, p.2.2.2.2.2.1.2.2.2, p.2.2.2.2.2.2.1.1, p.2.2.2.2.2.2.1.2, p.2.2.2.2.2.2.2.1, p.2.2.2.2.2.2.2.2.1, p.2.2.2.2.2.2.2.2.2.1, p.2.2.2.2.2.2.2.2.2.2.1, p.2.2.2.2.2.2.2.2.2.2.2⟩)
    (fun _ => rfl) (fun _ => rfl)
    (fun m => by
      show app (app _ (app _ (app _ (app _ (app _ (some [])))))) (app _ (app _ (app (each num [m.ki]) (app _ (app _ (app _ (each num [m.er]))))))) = _
      rw [one_num, one_num, app_nil]
      simp only [app_assoc]
      rfl)
    (fun L a => by unfold msgR twoR intR; simp only [seqR_assoc, seqR_pure])

theorem read_back {m : Msg} {b : List Nat} (h : msg m = some b) : read b = .ok m := by
  have := fmt_msg.back m b h b 0 [] (Nat.zero_le _) (by simp)
  unfold read
  rw [this]
  simp
theorem read_forth {L : List Nat} (hL : ∀ x ∈ L, x < 256) {m : Msg} (h : read L = .ok m) : msg m = some L := by
  unfold read at h
  split at h
  · rename_i m' a h1
    split at h
    · cases h
    · cases h
      obtain ⟨b, e, hk, hl, ht⟩ := fmt_msg.forth L hL 0 m a (Nat.zero_le _) h1
      rw [e]
      congr 1
      rw [List.drop_zero] at ht
      rw [← ht, List.take_of_length_le (by omega)]
  · cases h
theorem read_cut {m : Msg} {b : List Nat} (h : msg m = some b) {j : Nat} (hj : j < b.length) : read (b.take j) = .error 2 := by
  have := fmt_msg.cut m b h (b.take j) 0 j (Nat.zero_le _) (by simp) hj
  unfold read
  rw [this]
theorem read_beyond {m : Msg} {b : List Nat} (h : msg m = some b) (c : Nat) : read (b ++ [c]) = .error 3 := by
  have := fmt_msg.back m b h (b ++ [c]) 0 [c] (Nat.zero_le _) (by simp)
  unfold read
  rw [this]
  simp
theorem msg_inj {m m' : Msg} {b : List Nat} (h : msg m = some b) (h' : msg m' = some b) : m = m' := by
  have h1 := read_back h
  rw [read_back h'] at h1
  cases h1; rfl
end Go.Proofs.Ytghbkieflifegaa.cd
